/- Rows of the call's own; all turns. -/
import Derived.Test.YtmfclelnaceonaaF
import Derived.Laws.Bits64b
namespace Go.Proofs.Ytmfclelnaceonaa
open Go.ChangeShapes Go.WideShapes Go.ChangeAt Go.RowKit
set_option linter.unusedVariables false
set_option linter.unusedSimpArgs false

theorem flat_len {α : Type} (f : α → List Value) (s : Nat) (hf : ∀ x, (f x).length = s) : ∀ l : List α, (l.flatMap f).length = l.length * s
  | [] => by simp
  | x :: l => by rw [List.flatMap_cons, List.length_append, hf, flat_len f s hf l, List.length_cons, Nat.succ_mul]; omega
theorem flat_at {α : Type} (f : α → List Value) (s : Nat) (hf : ∀ x, (f x).length = s) : ∀ (l : List α) (k : Nat) (hk : k < l.length) (j : Nat), j < s → (l.flatMap f)[k * s + j]? = (f l[k])[j]?
  | [], k, hk, _, _ => by simp at hk
  | x :: l, 0, _, j, hj => by
    rw [List.flatMap_cons, List.getElem?_append_left (by rw [hf]; omega)]; simp
  | x :: l, k + 1, hk, j, hj => by
    have h := flat_at f s hf l k (by simpa using hk) j hj
    rw [List.flatMap_cons, List.getElem?_append_right (by rw [hf, Nat.succ_mul]; omega), hf, show (k + 1) * s + j - s = k * s + j by rw [Nat.succ_mul]; omega, h]
    simp
/-- A row of the call's own. -/
def Own {α : Type} (f : α → List Value) (t : TypeId) (s B : Nat) (w : World) (v : Value) (l : List α) : Prop := w.ownsRow B t s v l.length (l.flatMap f)
/-- A row that can be read. -/
def Rd {α : Type} (f : α → List Value) (s : Nat) (w : World) (v : Value) (l : List α) : Prop := ∃ q c, v = .slice q l.length c ∧ ∀ k (h : k < l.length), ∃ g, q = some ⟨g, 0, none⟩ ∧ ∀ j, j < s → w.cell? ⟨g, k * s + j, none⟩ = (f l[k])[j]?
theorem own_on {B : Nat} {w w' : World} {v : Value} {n : Nat} {e : TypeId} {s : Nat} {xs : List Value} (h : w.ownsRow B e s v n xs) (hb : Below w.heap.size w w') : w'.ownsRow B e s v n xs := by
  have k := h.lt
  obtain ⟨hl, h0 | ⟨g, cap, cur, rfl, hB, hg, r⟩⟩ := h
  · exact ⟨hl, .inl h0⟩
  · have := k g rfl
    exact ⟨hl, .inr ⟨g, cap, cur, rfl, hB, by rw [hb.block g this.2]; exact hg, r⟩⟩
theorem own_at {B g : Nat} {w w' : World} {v : Value} {n : Nat} {e : TypeId} {s : Nat} {xs : List Value} (h : w.ownsRow B e s v n xs) (hb : At g w w') (hg : v.ownBlock ≠ some g) : w'.ownsRow B e s v n xs := by
  obtain ⟨hl, h0 | ⟨g', cap, cur, rfl, hB, hc, r⟩⟩ := h
  · exact ⟨hl, .inl h0⟩
  · have : g' ≠ g := fun e => hg (by rw [e]; rfl)
    exact ⟨hl, .inr ⟨g', cap, cur, rfl, hB, by rw [hb.block g' this]; exact hc, r⟩⟩
theorem Own.on {α : Type} {f : α → List Value} {t : TypeId} {s B : Nat} {w w' : World} {v : Value} {l : List α} (h : Own f t s B w v l) (hb : Below w.heap.size w w') : Own f t s B w' v l := own_on h hb
theorem Own.mono {α : Type} {f : α → List Value} {t : TypeId} {s B B' : Nat} {w : World} {v : Value} {l : List α} (h : Own f t s B w v l) (hB : B' ≤ B) : Own f t s B' w v l := by
  obtain ⟨hl, h0 | ⟨g, cap, cur, rfl, hg, r⟩⟩ := h
  · exact ⟨hl, .inl h0⟩
  · exact ⟨hl, .inr ⟨g, cap, cur, rfl, Nat.le_trans hB hg, r⟩⟩
theorem Own.rd {α : Type} {f : α → List Value} {t : TypeId} {s B : Nat} {w : World} {v : Value} {l : List α} (hf : ∀ x, (f x).length = s) (h : Own f t s B w v l) : Rd f s w v l := by
  rcases Nat.eq_zero_or_pos l.length with h0 | h0
  · obtain ⟨hl, ⟨rfl, -⟩ | ⟨g, cap, cur, rfl, -⟩⟩ := h
    · exact ⟨none, 0, by rw [h0], fun k hk => by omega⟩
    · exact ⟨_, cap, rfl, fun k hk => by omega⟩
  · obtain ⟨hl, ⟨rfl, hn⟩ | ⟨g, cap, cur, rfl, hB, hg, hn, hm, hs, ht⟩⟩ := h
    · omega
    · refine ⟨_, cap, rfl, fun k hk => ⟨g, rfl, fun j hj => ?_⟩⟩
      have hi : k * s + j < l.length * s := by
        have : (k + 1) * s ≤ l.length * s := Nat.mul_le_mul_right s hk
        rw [Nat.succ_mul] at this; omega
      rw [cell_of_row w g _ cur t (0, 0) hg, ← flat_at f s hf l k hk j hj, ← ht, List.getElem?_take_of_lt hi, Array.getElem?_toList]
theorem Rd.on {α : Type} {f : α → List Value} {s : Nat} {w w' : World} {v : Value} {l : List α} (hf : ∀ x, (f x).length = s) (h : Rd f s w v l) (hb : Below w.heap.size w w') : Rd f s w' v l := by
  obtain ⟨q, c, rfl, k⟩ := h
  refine ⟨q, c, rfl, fun i hi => ?_⟩
  obtain ⟨g, e, hc⟩ := k i hi
  refine ⟨g, e, fun j hj => ?_⟩
  have hc1 := hc j hj
  have hl : j < (f l[i]).length := by rw [hf]; exact hj
  rw [List.getElem?_eq_getElem hl] at hc1 ⊢
  exact cell_later hb hc1
def pc (p : Pt) : List Value := [.int .i64 p.x, .int .i64 p.y, .int .i64 p.z]
def tc (p : Tn) : List Value := [.int .i64 p.x, .int .i64 p.y]
theorem pl (p : Pt) : (pc p).length = 3 := rfl
theorem tl (p : Tn) : (tc p).length = 2 := rfl
theorem own_snoc {α : Type} {f : α → List Value} {t : TypeId} {s B : Nat} {w : World} {v : Value} {O : List α} {y : α} (h : w.ownsRow B t s v (O.length + 1) (O.flatMap f ++ f y)) : Own f t s B w v (O ++ [y]) := by
  unfold Own
  rw [List.length_append, List.flatMap_append]
  simpa using h
theorem env_grown {w0 w1 w2 : World} {l : List Fb} {row : Option Nat} (E : Env w0 w1 l) (hg : w1.grownBy w2 row) (hr : ∀ k, row = some k → ∀ y ∈ l, y.g < k) (hr0 : ∀ k, row = some k → w0.heap.size ≤ k) : Env w0 w2 l := by
  refine ⟨E.1.grown hg E.1.size hr0, ?_⟩
  have go : ∀ l' : List Fb, (∀ y ∈ l', ∀ k, row = some k → y.g < k) → Blk w0.heap.size w1 l' → Blk w0.heap.size w2 l' := by
    intro l'
    induction l' with
    | nil => intro _ _; trivial
    | cons x l' ih =>
      intro h h2
      refine ⟨h2.1, Has.grown_ h2.2.1 hg (fun e => ?_), h2.2.2.1, ih (fun y hy => h y (List.mem_cons_of_mem _ hy)) h2.2.2.2⟩
      have := h x (List.mem_cons_self ..) x.g e.symm
      omega
  exact go l (fun y hy k hk => hr k hk y hy) E.2
theorem info23 : (Try.prog.info? 23).map (fun i => (i.zero, i.size, i.bytes)) = some (some (.agg #[.int .i64 0, .int .i64 0]), 2, 16) := by kernel_rfl
theorem info37 : (Try.prog.info? 37).map (fun i => (i.zero, i.size, i.bytes)) = some (some (.agg #[.int .i64 0, .int .i64 0, .int .i64 0]), 3, 24) := by kernel_rfl
/-- The turns among the first m pairs of axes. -/
def aF (m : Nat) : List Tn := (allQ.take m).filter vT
theorem aF_end : aF 49 = allT := by
  unfold aF allT
  rw [List.take_of_length_le (by decide)]
theorem aF_len (m : Nat) : (aF m).length ≤ 49 := by
  unfold aF
  refine Nat.le_trans (List.length_filter_le _ _) ?_
  rw [List.length_take]
  exact Nat.le_trans (Nat.min_le_right _ _) (by decide)
theorem allQ_at : ∀ i, i < 7 → ∀ j, j < 7 → allQ[7 * i + j]? = some ⟨(i : Int) - 3, (j : Int) - 3⟩ := by decide +kernel
theorem aF_step {i j : Nat} (hi : i < 7) (hj : j < 7) : aF (7 * i + (j + 1)) = if vT ⟨(i : Int) - 3, (j : Int) - 3⟩ = true then aF (7 * i + j) ++ [⟨(i : Int) - 3, (j : Int) - 3⟩] else aF (7 * i + j) := by
  have h := allQ_at i hi j hj
  unfold aF
  rw [← Nat.add_assoc, List.take_add_one, h, List.filter_append]
  simp only [Option.toList_some, List.filter_cons, List.filter_nil]
  split <;> simp
set_option maxHeartbeats 4000000 in
set_option maxRecDepth 100000 in
theorem all_14 (w : World) : Calls Try.prog 14 #[] w fun e w' => ∃ v, e = .returned v ∧ Own tc 23 2 w.heap.size w' v allT ∧ Below w.heap.size w w' := by
  rw [← aF_end]
  have H0 : Hid (aF 0 = []) := Lib.hid rfl
  have HS := Lib.hid (fun i j (hi : i < 7) (hj : j < 7) => aF_step hi hj)
  have HL := Lib.hid aF_len
  have HV := fun (t : Tn) W => valid_11 t W
  unfold Tn.val at HV
  obtain ⟨i0, hinf, hz0, hz1, hz2⟩ := info_parts info23
  generalize aF = A at *
  go_enter Try.func14, Try.ntmps14
  go_wp2
  go_loopw [1, 2] (fun v1 v2 wr => ∃ (i : Nat) (x : Int) (F : Value), v2 = .int .i64 x ∧ Hid (x = (i : Int) - 3) ∧ F = v1 ∧ i ≤ 7 ∧ Below w.heap.size w wr ∧ Own tc 23 2 w.heap.size wr F (A (7 * i))) (fun _ v _ => (4 - intOf v).toNat)
  case atStart => exact ⟨0, -3, _, rfl, Lib.hid rfl, rfl, Nat.zero_le _, Below.refl _ _, by rw [Nat.mul_zero, H0.out]; exact ⟨rfl, .inl ⟨rfl, rfl⟩⟩⟩
  case round =>
    obtain ⟨i, x, F, rfl, hx, rfl, hi, hB, hO⟩ := hrel
    by_cases hlt : i < 7
    · have g1 : decide (x ≤ 3) = true := by have := hx.out; simp; omega
      have W1 : IntKind.i64.wrap (x + 1) = x + 1 := by have := hx.out; exact IntWalk.i64_in _ (by omega)
      go_wp2
      go_loopw [1, 3] (fun v1 v3 ws => ∃ (j : Nat) (y : Int) (F : Value), v3 = .int .i64 y ∧ Hid (y = (j : Int) - 3) ∧ F = v1 ∧ j ≤ 7 ∧ Below w.heap.size w ws ∧ Own tc 23 2 w.heap.size ws F (A (7 * i + j))) (fun _ v _ => (4 - intOf v).toNat)
      case atStart => exact ⟨0, -3, _, rfl, Lib.hid rfl, rfl, Nat.zero_le _, hB, hO⟩
      case round =>
        clear hO hB
        obtain ⟨j, y, F2, rfl, hy, rfl, hj, hB, hO⟩ := hrel
        by_cases hjt : j < 7
        · have g2 : decide (y ≤ 3) = true := by have := hy.out; simp; omega
          have W2 : IntKind.i64.wrap (y + 1) = y + 1 := by have := hy.out; exact IntWalk.i64_in _ (by omega)
          have hs := Lib.hid (HS.out i j hlt hjt)
          have hle := HL.out (7 * i + j)
          have hv := HV ⟨x, y⟩
          rw [← hx.out, ← hy.out] at hs
          have hsz := hB.size
          cases hV : vT ⟨x, y⟩
          · rw [hV] at hv hs
            clear hV HV
            generalize A (7 * i + j) = O at *
            go_wp2_with (go_at_call 11; (with_reducible refine (hv _).mono ?_); rintro X w4 ⟨rfl, hb⟩)
            refine ⟨⟨j + 1, y + 1, _, rfl, Lib.hid (by have := hy.out; omega), rfl, hjt, ?_, ?_⟩, by simp [intOf]; have := hy.out; omega⟩
            · exact (al hB _).trans (hb.mono (by simp; omega))
            · rw [hs.out]
              exact own_on (own_on hO (al1 _ _)) hb
          · rw [hV] at hv hs
            clear hV HV
            generalize A (7 * i + j) = O at *
            have hC : Has (wr.alloc (.cells #[.int .i64 x, .int .i64 y] 23)) wr.heap.size 23 #[.int .i64 x, .int .i64 y] := Has.new_ _ _ _
            go_upto_region 10 with (go_at_call 11; (with_reducible refine (hv _).mono ?_); rintro X w4 ⟨rfl, hb⟩)
            replace hC := hC.on hb
            have c0 := hC.read 0
            have c1 := hC.read 1
            simp at c0 c1
            replace hB := (al hB (.cells #[.int .i64 x, .int .i64 y] 23)).trans (hb.mono (by simp; omega))
            replace hO := own_on (own_on hO (al1 _ (.cells #[.int .i64 x, .int .i64 y] 23))) hb
            have hsz4 := hC.size_
            clear hb hC
            go_wp2_with (at_builtin; refine wpList_append_own_at _ rfl _ _ 27 rfl w.heap.size 23 i0 _ 2 16 Try.underlying27 hinf hz0 hz1 hz2 rfl (by decide) _ O.length (O.flatMap tc) rfl (own_on hO (al1 _ _)) ⟨_, 0, none⟩ 1 1 [.int .i64 x, .int .i64 y] rfl rfl (World.news_of_block (cs := #[.int .i64 x, .int .i64 y]) (t := 23) (fr := (0, 0)) (heap_alloc_new w4 _)) (by simp [Value.oneCell']) (by unfold maxLen; omega) (by omega) (by simp; omega) ?_)
            intro v' w6 p1 p2 p3 p4
            have O5 : Own tc 23 2 w.heap.size w6 v' (O ++ [⟨x, y⟩]) := own_snoc p1
            have B5 : Below w.heap.size w w6 := (al hB _).grown p2 (by have := hB.size; simp; omega) (fun k hk => (World.ownsRow.lt hO k hk).1)
            clear p1 p2 p3 p4 hO hB
            try simp only [Act.put, List.setIfInBounds_toArray, List.set_cons_zero, List.set_cons_succ]
            go_wp2
            exact ⟨⟨j + 1, y + 1, _, rfl, Lib.hid (by have := hy.out; omega), rfl, hjt, B5, by rw [hs.out]; exact O5⟩, by simp [intOf]; have := hy.out; omega⟩
        · have g2 : decide (y ≤ 3) = false := by have := hy.out; simp; omega
          have hj7 : j = 7 := by omega
          subst hj7
          go_wp2
          exact ⟨⟨i + 1, x + 1, _, rfl, Lib.hid (by have := hx.out; omega), rfl, hlt, hB, hO⟩, by simp [intOf]; have := hx.out; omega⟩
    · have g1 : decide (x ≤ 3) = false := by have := hx.out; simp; omega
      have hi7 : i = 7 := by omega
      subst hi7
      go_wp2
      go_ret
      exact ⟨_, rfl, hO, hB⟩
set_option maxHeartbeats 4000000 in
set_option maxRecDepth 100000 in
theorem all_15 (w : World) : Calls Try.prog 15 #[] w fun e w' => ∃ v, e = .returned v ∧ Own tc 23 2 w.heap.size w' v allT ∧ Below w.heap.size w w' := by
  rw [← aF_end]
  have H0 : Hid (aF 0 = []) := Lib.hid rfl
  have HS := Lib.hid (fun i j (hi : i < 7) (hj : j < 7) => aF_step hi hj)
  have HL := Lib.hid aF_len
  have HV := fun (t : Tn) W => valid_12 t W
  unfold Tn.val at HV
  obtain ⟨i0, hinf, hz0, hz1, hz2⟩ := info_parts info23
  generalize aF = A at *
  go_enter Try.func15, Try.ntmps15
  go_wp2
  go_loopw [1, 2] (fun v1 v2 wr => ∃ (i : Nat) (x : Int) (F : Value), v2 = .int .i64 x ∧ Hid (x = (i : Int) - 3) ∧ F = v1 ∧ i ≤ 7 ∧ Below w.heap.size w wr ∧ Own tc 23 2 w.heap.size wr F (A (7 * i))) (fun _ v _ => (4 - intOf v).toNat)
  case atStart => exact ⟨0, -3, _, rfl, Lib.hid rfl, rfl, Nat.zero_le _, Below.refl _ _, by rw [Nat.mul_zero, H0.out]; exact ⟨rfl, .inl ⟨rfl, rfl⟩⟩⟩
  case round =>
    obtain ⟨i, x, F, rfl, hx, rfl, hi, hB, hO⟩ := hrel
    by_cases hlt : i < 7
    · have g1 : decide (x ≤ 3) = true := by have := hx.out; simp; omega
      have W1 : IntKind.i64.wrap (x + 1) = x + 1 := by have := hx.out; exact IntWalk.i64_in _ (by omega)
      go_wp2
      go_loopw [1, 3] (fun v1 v3 ws => ∃ (j : Nat) (y : Int) (F : Value), v3 = .int .i64 y ∧ Hid (y = (j : Int) - 3) ∧ F = v1 ∧ j ≤ 7 ∧ Below w.heap.size w ws ∧ Own tc 23 2 w.heap.size ws F (A (7 * i + j))) (fun _ v _ => (4 - intOf v).toNat)
      case atStart => exact ⟨0, -3, _, rfl, Lib.hid rfl, rfl, Nat.zero_le _, hB, hO⟩
      case round =>
        clear hO hB
        obtain ⟨j, y, F2, rfl, hy, rfl, hj, hB, hO⟩ := hrel
        by_cases hjt : j < 7
        · have g2 : decide (y ≤ 3) = true := by have := hy.out; simp; omega
          have W2 : IntKind.i64.wrap (y + 1) = y + 1 := by have := hy.out; exact IntWalk.i64_in _ (by omega)
          have hs := Lib.hid (HS.out i j hlt hjt)
          have hle := HL.out (7 * i + j)
          have hv := HV ⟨x, y⟩
          rw [← hx.out, ← hy.out] at hs
          have hsz := hB.size
          cases hV : vT ⟨x, y⟩
          · rw [hV] at hv hs
            clear hV HV
            generalize A (7 * i + j) = O at *
            go_wp2_with (go_at_call 12; (with_reducible refine (hv _).mono ?_); rintro X w4 ⟨rfl, hb⟩)
            refine ⟨⟨j + 1, y + 1, _, rfl, Lib.hid (by have := hy.out; omega), rfl, hjt, ?_, ?_⟩, by simp [intOf]; have := hy.out; omega⟩
            · exact (al hB _).trans (hb.mono (by simp; omega))
            · rw [hs.out]
              exact own_on (own_on hO (al1 _ _)) hb
          · rw [hV] at hv hs
            clear hV HV
            generalize A (7 * i + j) = O at *
            have hC : Has (wr.alloc (.cells #[.int .i64 x, .int .i64 y] 23)) wr.heap.size 23 #[.int .i64 x, .int .i64 y] := Has.new_ _ _ _
            go_upto_region 10 with (go_at_call 12; (with_reducible refine (hv _).mono ?_); rintro X w4 ⟨rfl, hb⟩)
            replace hC := hC.on hb
            have c0 := hC.read 0
            have c1 := hC.read 1
            simp at c0 c1
            replace hB := (al hB (.cells #[.int .i64 x, .int .i64 y] 23)).trans (hb.mono (by simp; omega))
            replace hO := own_on (own_on hO (al1 _ (.cells #[.int .i64 x, .int .i64 y] 23))) hb
            have hsz4 := hC.size_
            clear hb hC
            go_wp2_with (at_builtin; refine wpList_append_own_at _ rfl _ _ 27 rfl w.heap.size 23 i0 _ 2 16 Try.underlying27 hinf hz0 hz1 hz2 rfl (by decide) _ O.length (O.flatMap tc) rfl (own_on hO (al1 _ _)) ⟨_, 0, none⟩ 1 1 [.int .i64 x, .int .i64 y] rfl rfl (World.news_of_block (cs := #[.int .i64 x, .int .i64 y]) (t := 23) (fr := (0, 0)) (heap_alloc_new w4 _)) (by simp [Value.oneCell']) (by unfold maxLen; omega) (by omega) (by simp; omega) ?_)
            intro v' w6 p1 p2 p3 p4
            have O5 : Own tc 23 2 w.heap.size w6 v' (O ++ [⟨x, y⟩]) := own_snoc p1
            have B5 : Below w.heap.size w w6 := (al hB _).grown p2 (by have := hB.size; simp; omega) (fun k hk => (World.ownsRow.lt hO k hk).1)
            clear p1 p2 p3 p4 hO hB
            try simp only [Act.put, List.setIfInBounds_toArray, List.set_cons_zero, List.set_cons_succ]
            go_wp2
            exact ⟨⟨j + 1, y + 1, _, rfl, Lib.hid (by have := hy.out; omega), rfl, hjt, B5, by rw [hs.out]; exact O5⟩, by simp [intOf]; have := hy.out; omega⟩
        · have g2 : decide (y ≤ 3) = false := by have := hy.out; simp; omega
          have hj7 : j = 7 := by omega
          subst hj7
          go_wp2
          exact ⟨⟨i + 1, x + 1, _, rfl, Lib.hid (by have := hx.out; omega), rfl, hlt, hB, hO⟩, by simp [intOf]; have := hx.out; omega⟩
    · have g1 : decide (x ≤ 3) = false := by have := hx.out; simp; omega
      have hi7 : i = 7 := by omega
      subst hi7
      go_wp2
      go_ret
      exact ⟨_, rfl, hO, hB⟩
end Go.Proofs.Ytmfclelnaceonaa
