/- The reference's Order. -/
import Derived.Test.YteofbbakegcohaaRc
namespace Go.Proofs.Yteofbbakegcohaa
open Go.ChangeShapes Go.WideShapes Go.ChangeAt Go.RowKit
set_option linter.unusedVariables false
set_option linter.unusedSimpArgs false


/-- A row of yes and no that fills block g. -/
def RowB (w : World) (g n : Nat) (f : Nat → Bool) : Prop := Has w g 4 ((List.range n).map fun i => Value.bool (f i)).toArray
theorem RowB.read {w : World} {g n : Nat} {f : Nat → Bool} (h : RowB w g n f) {i : Nat} (hi : i < n) : w.cell? ⟨g, i, none⟩ = some (.bool (f i)) := by
  rw [Has.read h i]; simp [hi]
theorem RowB.put {w : World} {g n : Nat} {f : Nat → Bool} (h : RowB w g n f) (i : Nat) (v : Bool) : RowB (w.setCell ⟨g, i, none⟩ (.bool v)) g n (upd f i v) := by
  have k := Has.put_ h i (.bool v)
  have e : (((List.range n).map fun i => Value.bool (f i)).toArray.setIfInBounds i (.bool v)) = ((List.range n).map fun j => Value.bool (upd f i v j)).toArray := by
    apply Array.ext
    · simp
    · intro j h1 h2
      simp only [Array.getElem_setIfInBounds, List.getElem_toArray, List.getElem_map, List.getElem_range, upd]
      by_cases hj : i = j
      · simp [hj]
      · simp [hj, Ne.symm hj]
  rw [e] at k; exact k
theorem RowB.cong {w : World} {g n : Nat} {f f' : Nat → Bool} (h : RowB w g n f) (e : ∀ i, i < n → f i = f' i) : RowB w g n f' := by
  unfold RowB at *
  rw [show ((List.range n).map fun i => Value.bool (f' i)) = (List.range n).map fun i => Value.bool (f i) from List.map_congr_left fun i hi => by rw [e i (List.mem_range.1 hi)]]
  exact h
theorem RowB.on {w w1 : World} {g n : Nat} {f : Nat → Bool} (h : RowB w g n f) (hb : Below w.heap.size w w1) : RowB w1 g n f := Has.on h hb
theorem RowB.at_ {w w1 : World} {g k n : Nat} {f : Nat → Bool} (h : RowB w g n f) (hb : At k w w1) (hk : g ≠ k) : RowB w1 g n f := Has.at_ h hb hk
theorem rowb_zero {w : World} {base g n : Nat} (h : w.ownsRow base 4 1 (.slice (some ⟨g, 0, none⟩) n n) n (madeCells #[Value.bool false] n).toList) : RowB w g n (fun _ => false) := by
  have k := has_full h
  unfold RowB
  have e : (madeCells #[Value.bool false] n).toList = (List.range n).map fun _ => Value.bool false := by
    rw [toList_madeCells_one]
    apply List.ext_getElem <;> simp
  rw [e] at k; exact k
theorem info4 : (Try.prog.info? 4).map (fun i => (i.zero, i.size, i.bytes)) = some (some (.bool false), 1, 1) := by kernel_rfl
/-- Whether a node is free as far as the first k edges tell. -/
def frk (l : List (Nat × Nat)) (D : List Nat) (k x : Nat) : Bool := !D.contains x && (l.take k).all fun e => D.contains e.1 || !(e.2 == x)
theorem frk_zero (l : List (Nat × Nat)) (D : List Nat) (x : Nat) : frk l D 0 x = !D.contains x := by simp [frk]
theorem frk_in {l : List (Nat × Nat)} {D : List Nat} {k : Nat} (hk : k < l.length) (h : D.contains l[k].1 = true) (x : Nat) : frk l D k x = frk l D (k + 1) x := by
  unfold frk
  rw [List.take_succ_eq_append_getElem hk, List.all_append]
  have : [l[k]].all (fun e => D.contains e.1 || !(e.2 == x)) = true := by simp only [List.all_cons, List.all_nil, h]; rfl
  rw [this, Bool.and_true]
theorem frk_out {l : List (Nat × Nat)} {D : List Nat} {k : Nat} (hk : k < l.length) (h : D.contains l[k].1 = false) (x : Nat) : upd (frk l D k) l[k].2 false x = frk l D (k + 1) x := by
  unfold frk upd
  rw [List.take_succ_eq_append_getElem hk, List.all_append]
  have : [l[k]].all (fun e => D.contains e.1 || !(e.2 == x)) = !(l[k].2 == x) := by simp only [List.all_cons, List.all_nil, h]; simp
  rw [this]
  by_cases e : x = l[k].2
  · subst e; simp
  · rw [if_neg e, beq_eq_false_iff_ne.2 (Ne.symm e)]; simp
theorem frk_end {l : List (Nat × Nat)} {n : Nat} (D : List Nat) (hl : ∀ x ∈ l, x.1 < n ∧ x.2 < n) (x : Nat) : frk l D l.length x = fre (adj l) n D x := by
  unfold frk
  rw [List.take_length, Bool.eq_iff_iff, fre_iff, Bool.and_eq_true, List.all_eq_true]
  refine and_congr (by simp) ⟨fun h v hv hd hm => ?_, fun h e he => ?_⟩
  · have := h (v, x) ((mem_adj l v x).1 hm)
    simp [hd] at this
  · by_cases hd : e.1 ∈ D
    · simp [hd]
    · by_cases hx : e.2 = x
      · exact absurd ((mem_adj l e.1 x).2 (by rw [← hx]; exact he)) (h e.1 (hl e he).1 hd)
      · simp [hx]
theorem nxt_at {A : Nat → List Nat} {n : Nat} {D : List Nat} {k : Nat} (hk : k < n) (h : ∀ j, j < k → fre A n D j = false) (hf : fre A n D k = true) : nxt A n D = some k := by
  unfold nxt
  rw [List.find?_eq_some_iff_getElem]
  refine ⟨hf, k, by simpa using hk, by simp, fun j hj => ?_⟩
  rw [List.getElem_range, h j hj]; rfl
theorem nxt_not {A : Nat → List Nat} {n : Nat} {D : List Nat} (h : ∀ j, j < n → fre A n D j = false) : nxt A n D = none := by
  unfold nxt
  rw [List.find?_eq_none]
  intro x hx
  rw [h x (List.mem_range.1 hx)]; simp
theorem contains_snoc (D : List Nat) (y x : Nat) : (D ++ [y]).contains x = upd (fun x => D.contains x) y true x := by
  unfold upd
  by_cases h : x = y
  · subst h; simp
  · simp [h]
set_option maxRecDepth 100000 in
set_option maxHeartbeats 8000000 in
theorem rorder_any (p : Option Addr) (n : Nat) (l : List (Nat × Nat)) (cap : Nat) (w : World) (hG : Gr w p n l) :
    Calls Try.prog 16 #[.int .i64 n, .slice p l.length cap] w fun e w' => (∀ E, ordr (adj l) n n [] = some E → ∃ v, e = .returned (.tuple #[v, .bool true]) ∧ Own w.heap.size w' v E) ∧ (ordr (adj l) n n [] = none → e = .returned (.tuple #[.slice none 0 0, .bool false])) ∧ Below w.heap.size w w' := by
  have hn := hG.2.2.1
  have hm := hG.2.1
  obtain ⟨i0, hi, hz0, hz1, hz2⟩ := info_parts info3
  obtain ⟨b0, hb, hb0, hb1, hb2⟩ := info_parts info4
  obtain ⟨R0, hR0⟩ : ∃ R, R = ordr (adj l) n n [] := ⟨_, rfl⟩
  rw [← hR0]
  have HF : Hid (ordr (adj l) n (n - 0) [] = R0) := Lib.hid (by rw [hR0]; rfl)
  clear hR0
  go_enter Try.func16, Try.ntmps16
  go_wp2_with (at_make; refine wpList_make_full _ rfl _ _ 65 rfl w.heap.size 4 b0 _ 1 Try.underlying65 hb hb0 hb1 _ _ _ _ n rfl rfl rfl rfl (by rw [hb2]; omega) (by unfold maxLen; omega) (Nat.le_refl _) ?_)
  intro w1 hown hgrow
  have hR := Lib.hid ((rowb_zero hown).cong (f' := fun x => ([] : List Nat).contains x) fun i _ => by simp)
  have hB := below_grown (Below.refl _ w) hgrow (Nat.le_refl _)
  have hS : w.heap.size + 1 ≤ w1.heap.size := hR.out.size_
  clear hown hgrow
  have O0 : Own (w.heap.size + 1) w1 (.slice none 0 0) [] := World.ownsRow_nil _ _ _ _
  go_wp2
  go_loopw [7] (fun v7 wr => ∃ (D : List Nat) (q : Option Addr) (c : Nat), v7 = .slice q D.length c ∧ D.length ≤ n ∧ Hid (RowB wr w.heap.size n (fun x => D.contains x)) ∧ Own (w.heap.size + 1) wr (.slice q D.length c) D ∧ Hid (ordr (adj l) n (n - D.length) D = R0) ∧ Below w.heap.size w wr ∧ w.heap.size + 1 ≤ wr.heap.size) (fun v _ => n - (match v with | .slice _ m _ => m | _ => 0))
  case atStart => exact ⟨[], none, 0, rfl, Nat.zero_le _, hR, O0, HF, hB, hS⟩
  case round =>
    clear hR O0 HF hB hS
    obtain ⟨D, q, c, rfl, hk, hR, O, HF, hB, hS⟩ := hrel
    by_cases hlt : D.length < n
    · have g1 : decide ((D.length : Int) < (n : Int)) = true := by simp [hlt]
      have HF2 := HF.out
      rw [show n - D.length = (n - (D.length + 1)) + 1 by omega, ordr] at HF2
      have HF3 := Lib.hid HF2
      have HLT := Lib.hid hlt
      clear HF HF2
      go_wp2_with (at_make; refine wpList_make_full _ rfl _ _ 65 rfl w.heap.size 4 b0 _ 1 Try.underlying65 hb hb0 hb1 _ _ _ _ n rfl rfl rfl rfl (by rw [hb2]; omega) (by unfold maxLen; omega) hB.size ?_)
      intro w2 hown hgrow
      obtain ⟨F, hF⟩ : ∃ F, F = wr.heap.size := ⟨_, rfl⟩
      rw [← hF] at hown ⊢
      have kb : Below wr.heap.size wr w2 := below_grown (Below.refl _ wr) hgrow (Nat.le_refl _)
      have hf := rowb_zero hown
      have hQ := Lib.hid (hf.cong (f' := fun x => if x < 0 then !D.contains x else false) fun i _ => by simp)
      have hR2 := Lib.hid (hR.out.on kb)
      have O2 := own_on O kb
      have hB2 := belows hB kb
      have hS2 : w.heap.size + 1 ≤ w2.heap.size := Nat.le_trans hS kb.size
      have nF : F ≠ w.heap.size := by omega
      have hFw : w.heap.size + 1 ≤ F := by omega
      have oF : ∀ b, (Value.slice q D.length c).ownBlock = some b → b < F := fun b e => by rw [hF]; exact (O.lt b e).2
      clear hown hgrow kb hf hR O hB hS hF
      go_wp2
      go_loopw [9] (fun v wr => ∃ i : Nat, v = .int .i64 i ∧ i ≤ n ∧ Hid (RowB wr F n (fun x => if x < i then !D.contains x else false)) ∧ Hid (RowB wr w.heap.size n (fun x => D.contains x)) ∧ Own (w.heap.size + 1) wr (.slice q D.length c) D ∧ Below w.heap.size w wr ∧ w.heap.size + 1 ≤ wr.heap.size) (fun v _ => n - (intOf v).toNat)
      case atStart => exact ⟨0, rfl, Nat.zero_le _, hQ, hR2, O2, hB2, hS2⟩
      case round =>
        clear hQ hR2 O2 hB2 hS2 g1 hlt hk
        obtain ⟨i, rfl, hk, hQ, hR, O, hB, hS⟩ := hrel
        by_cases hlt : i < n
        · have g1 : decide ((i : Int) < (n : Int)) = true := by simp [hlt]
          have W1 : IntKind.i64.wrap ((i : Int) + 1) = ((i + 1 : Nat) : Int) := by rw [IntWalk.i64_in _ (by omega)]; omega
          have q1 : (0 : Int) ≤ (i : Int) := by omega
          have q2 : (i : Int) < (n : Int) := by omega
          have c1 := hR.out.read hlt
          have c2 := hQ.out.read hlt
          have f2 := Has.open_ hQ.out i
          rw [if_neg (Nat.lt_irrefl i)] at c2
          have HQ2 := Lib.hid ((hQ.out.put i (!D.contains i)).cong (f' := fun x => if x < i + 1 then !D.contains x else false) fun x _ => by
            unfold upd
            by_cases e : x = i
            · subst e; simp
            · by_cases e2 : x < i
              · simp [e, e2, show x < i + 1 by omega]
              · simp [e, e2, show ¬ x < i + 1 by omega])
          obtain ⟨bb, hbb⟩ : ∃ bb, bb = D.contains i := ⟨_, rfl⟩
          rw [← hbb] at c1 HQ2
          clear hbb
          have A1 : At F wr (wr.setCell ⟨F, i, none⟩ (.bool (!bb))) := (At.refl _ _).put _ _
          have HR2 := Lib.hid (hR.out.at_ A1 (Ne.symm nF))
          have O2 := own_at O A1 (fun e => by have := oF F e; omega)
          have hB2 := hB.setCell (p := ⟨F, i, none⟩) (by simp; omega) (.bool (!bb))
          have hS2 : w.heap.size + 1 ≤ (wr.setCell ⟨F, i, none⟩ (.bool (!bb))).heap.size := by simp [World.setCell]; omega
          clear A1
          go_wp2
          exact ⟨⟨i + 1, rfl, hlt, HQ2, HR2, O2, hB2, hS2⟩, by simp [intOf]; omega⟩
        · have g1 : decide ((i : Int) < (n : Int)) = false := by simp; omega
          have hQ2 := Lib.hid (hQ.out.cong (f' := frk l D 0) fun x hx => by rw [frk_zero, if_pos (by omega)])
          clear hQ
          go_wp2
          go_loopw [10] (fun v wr => ∃ k : Nat, v = .int .i64 k ∧ k ≤ l.length ∧ Hid (RowB wr F n (frk l D k)) ∧ Hid (RowB wr w.heap.size n (fun x => D.contains x)) ∧ Own (w.heap.size + 1) wr (.slice q D.length c) D ∧ Below w.heap.size w wr ∧ w.heap.size + 1 ≤ wr.heap.size) (fun v _ => l.length - (intOf v).toNat)
          case atStart => exact ⟨0, rfl, Nat.zero_le _, hQ2, hR, O, hB, hS⟩
          case round =>
            clear hQ2 hR O hB hS g1 hlt hk
            obtain ⟨k, rfl, hk, hQ, hR, O, hB, hS⟩ := hrel
            by_cases hlt : k < l.length
            · have g1 : decide ((k : Int) < (l.length : Int)) = true := by simp [hlt]
              have W1 : IntKind.i64.wrap ((k : Int) + 1) = ((k + 1 : Nat) : Int) := by rw [IntWalk.i64_in _ (by omega)]; omega
              have q1 : (0 : Int) ≤ (k : Int) := by omega
              have q2 : (k : Int) < (l.length : Int) := by omega
              obtain ⟨a, rfl, d0, d1, l1, l2⟩ := (hG.on hB).at hlt
              have HI := Lib.hid (fun h x => frk_in (D := D) hlt h x)
              have HO := Lib.hid (fun h x => frk_out (D := D) hlt h x)
              obtain ⟨x, hxx⟩ : ∃ x, x = l[k].1 := ⟨_, rfl⟩
              obtain ⟨y, hyy⟩ : ∃ y, y = l[k].2 := ⟨_, rfl⟩
              rw [← hxx] at d0 l1 HI HO
              rw [← hyy] at d1 l2 HO
              clear hxx hyy
              have p1 : (0 : Int) ≤ (x : Int) := by omega
              have p2 : (x : Int) < (n : Int) := by omega
              have p3 : (0 : Int) ≤ (y : Int) := by omega
              have p4 : (y : Int) < (n : Int) := by omega
              have c1 := hR.out.read l1
              cases hd : D.contains x
              · rw [hd] at c1
                obtain ⟨z, hz⟩ : ∃ z, z = frk l D k y := ⟨_, rfl⟩
                have c2 := hQ.out.read l2
                rw [← hz] at c2
                have f2 := Has.open_ hQ.out y
                have HQ2 := Lib.hid ((hQ.out.put y false).cong fun i _ => HO.out hd i)
                have A1 : At F wr (wr.setCell ⟨F, y, none⟩ (.bool false)) := (At.refl _ _).put _ _
                have HR2 := Lib.hid (hR.out.at_ A1 (Ne.symm nF))
                have O2 := own_at O A1 (fun e => by have := oF F e; omega)
                have hB2 := hB.setCell (p := ⟨F, y, none⟩) (by simp; omega) (.bool false)
                have hS2 : w.heap.size + 1 ≤ (wr.setCell ⟨F, y, none⟩ (.bool false)).heap.size := by simp [World.setCell]; omega
                clear A1 hz hd
                go_wp2
                exact ⟨⟨k + 1, rfl, hlt, HQ2, HR2, O2, hB2, hS2⟩, by simp [intOf]; omega⟩
              · rw [hd] at c1
                have HQ2 := Lib.hid (hQ.out.cong fun i _ => HI.out hd i)
                clear hd
                go_wp2
                exact ⟨⟨k + 1, rfl, hlt, HQ2, hR, O, hB, hS⟩, by simp [intOf]; omega⟩
            · have g1 : decide ((k : Int) < (l.length : Int)) = false := by simp; omega
              have hQ2 := Lib.hid (hQ.out.cong (f' := fre (adj l) n D) fun x _ => by
                rw [show k = l.length by omega]
                exact frk_end D hG.2.2.2 x)
              clear hQ
              go_wp2
              go_loop [11] (fun v => ∃ i : Nat, v = .int .i64 i ∧ i ≤ n ∧ Hid (∀ j, j < i → fre (adj l) n D j = false)) (fun v => n - (intOf v).toNat)
              case atStart => exact ⟨0, rfl, Nat.zero_le _, Lib.hid (fun j h => absurd h (Nat.not_lt_zero j))⟩
              case round =>
                clear g1 hlt hk
                obtain ⟨i, rfl, hk, hJ⟩ := hrel
                by_cases hlt : i < n
                · have g1 : decide ((i : Int) < (n : Int)) = true := by simp [hlt]
                  have W1 : IntKind.i64.wrap ((i : Int) + 1) = ((i + 1 : Nat) : Int) := by rw [IntWalk.i64_in _ (by omega)]; omega
                  have q1 : (0 : Int) ≤ (i : Int) := by omega
                  have q2 : (i : Int) < (n : Int) := by omega
                  have c2 := hQ2.out.read hlt
                  cases hfr : fre (adj l) n D i
                  · rw [hfr] at c2
                    have HJ : Hid (∀ j, j < i + 1 → fre (adj l) n D j = false) := Lib.hid fun j h => by
                      rcases Nat.lt_or_ge j i with h1 | h1
                      · exact hJ.out j h1
                      · have : j = i := by omega
                        rw [this]; exact hfr
                    clear hfr
                    go_wp2
                    go_round
                    case rel => exact ⟨i + 1, by go_num, hlt, HJ⟩
                    case measure => simp [intOf]; omega
                  · rw [hfr] at c2
                    have hnx := nxt_at hlt hJ.out hfr
                    have hF4 := HF3.out
                    rw [hnx] at hF4
                    have HF4 := Lib.hid hF4
                    have t1 : ((i : Int) == (n : Int)) = false := by simp; omega
                    clear hfr hnx hF4 HF3 hJ
                    have f1 := Has.open_ hR.out i
                    have c1 := hR.out.read hlt
                    obtain ⟨z, hz⟩ : ∃ z, z = D.contains i := ⟨_, rfl⟩
                    rw [← hz] at c1
                    clear hz
                    have HR2 := Lib.hid ((hR.out.put i true).cong (f' := fun x => (D ++ [i]).contains x) fun x _ => (contains_snoc D i x).symm)
                    have O2 := own_at O ((At.refl w.heap.size wr).put i (.bool true)) (fun e => by have := (O.lt _ e).1; omega)
                    have hB2 := hB.setCell (p := ⟨w.heap.size, i, none⟩) (Nat.le_refl _) (.bool true)
                    have hS2 : w.heap.size + 1 ≤ (wr.setCell ⟨w.heap.size, i, none⟩ (.bool true)).heap.size := by simp [World.setCell]; omega
                    have hdl : D.length ≤ 60 := by have := HLT.out; omega
                    have NW : ((wr.setCell ⟨w.heap.size, i, none⟩ (.bool true)).alloc (.cells #[.int .i64 (i : Int)] 3)).heap[wr.heap.size]? = some (.cells #[.int .i64 (i : Int)] 3 (0, 0)) := by
                      have := heap_alloc_new (wr.setCell ⟨w.heap.size, i, none⟩ (.bool true)) (.cells #[.int .i64 (i : Int)] 3)
                      rwa [show (wr.setCell ⟨w.heap.size, i, none⟩ (.bool true)).heap.size = wr.heap.size by simp [World.setCell]] at this
                    have NW := Lib.hid NW
                    clear hR hQ2 O
                    go_wp2_with (at_builtin; refine wpList_append_own_at _ rfl _ _ 23 rfl (w.heap.size + 1) 3 i0 _ 1 8 Try.underlying23 hi hz0 hz1 hz2 rfl (by decide) _ D.length (ints D) rfl (own_on O2 (al1 _ _)) ⟨wr.heap.size, 0, none⟩ 1 1 [.int .i64 (i : Int)] rfl rfl (World.news_of_block (cs := #[.int .i64 (i : Int)]) (t := 3) (fr := (0, 0)) NW.out) (by simp [Value.oneCell']) (by unfold maxLen; omega) (by omega) (Nat.le_trans hS2 (al1 _ _).size) ?_)
                    intro v' w3 o1 o2 o3 o4
                    obtain ⟨gq, cq, rfl, -, -⟩ := World.ownsRow.form o1 (Nat.succ_pos _)
                    have ob := al1 (wr.setCell ⟨w.heap.size, i, none⟩ (.bool true)) (.cells #[.int .i64 (i : Int)] 3)
                    have HR4 := Lib.hid (Has.grown_ (HR2.out.on ob) o2 (fun e => by have := (O2.lt _ e.symm).1; omega))
                    have el : (D ++ [i]).length = D.length + 1 := by simp
                    have O4 : Own (w.heap.size + 1) w3 (.slice (some ⟨gq, 0, none⟩) (D.length + 1) cq) (D ++ [i]) := by
                      unfold Own
                      rw [ints_app, List.length_append]
                      exact o1
                    have hB4 : Below w.heap.size w w3 := (hB2.trans (ob.mono (by omega))).grown o2 (by have := ob.size; omega) (fun j hj => by have := (O2.lt _ hj).1; omega)
                    have hS4 : w.heap.size + 1 ≤ w3.heap.size := Nat.le_trans hS2 (Nat.le_trans ob.size o2.size)
                    have HEL := Lib.hid el
                    have HF5 : Hid (ordr (adj l) n (n - (D ++ [i]).length) (D ++ [i]) = R0) := Lib.hid (by rw [el]; exact HF4.out)
                    have hlt := HLT.out
                    clear o1 o2 o3 o4 ob el
                    go_wp2
                    exact ⟨⟨D ++ [i], some ⟨gq, 0, none⟩, cq, by rw [HEL.out], by rw [HEL.out]; exact hlt, HR4, by rw [HEL.out]; exact O4, HF5, hB4, hS4⟩, by simp; omega⟩
                · have g1 : decide ((i : Int) < (n : Int)) = false := by simp; omega
                  have e : i = n := by omega
                  have hnx := nxt_not (A := adj l) (n := n) (D := D) fun j hj => hJ.out j (by omega)
                  have hF4 := HF3.out
                  rw [hnx] at hF4
                  have HF4 := Lib.hid hF4
                  have t1 : ((i : Int) == (n : Int)) = true := by simp [e]
                  clear hnx hF4 HF3 hJ e
                  go_wp2
                  refine bodyPost_ret (v := .tuple #[.slice none 0 0, .bool false]) (by simp [results, Try.results16, go_sem]) rfl ⟨fun E hE => ?_, fun _ => rfl, hB⟩
                  rw [← HF4.out] at hE; cases hE
    · have g1 : decide ((D.length : Int) < (n : Int)) = false := by simp; omega
      have HF2 := HF.out
      rw [show n - D.length = 0 by omega, ordr] at HF2
      have HF3 := Lib.hid HF2
      clear HF HF2
      go_wp2
      refine bodyPost_ret (v := .tuple #[.slice q D.length c, .bool true]) (by simp [results, Try.results16, go_sem]) rfl ⟨fun E hE => ?_, fun h => ?_, hB⟩
      · rw [← HF3.out] at hE
        simp only [Option.some.injEq] at hE
        subst hE
        exact ⟨_, rfl, Own.mono O (Nat.le_succ _)⟩
      · rw [← HF3.out] at h; cases h
end Go.Proofs.Yteofbbakegcohaa
