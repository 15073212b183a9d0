/- The order of a graph: the walk. -/
import Derived.Test.YteofbbakegcohaaOd0
namespace Go.Proofs.Yteofbbakegcohaa
open Go.ChangeShapes Go.WideShapes Go.ChangeAt Go.RowKit
set_option linter.unusedVariables false
set_option linter.unusedSimpArgs false


/-- A graph that can be read. -/
structure Gm (w : World) (G n : Nat) (A : Nat → List Nat) : Prop where
  rd : ∀ v, v < n → ∃ u, w.cell? ⟨G, v, none⟩ = some u ∧ Rdl w u (A v)
  sz : n ≤ 60
  len : ∀ v, (A v).length ≤ 1000
  lt : ∀ v, v < n → ∀ u ∈ A v, u < n
theorem Gm.on {w w1 : World} {G n : Nat} {A : Nat → List Nat} (h : Gm w G n A) (hb : Below w.heap.size w w1) : Gm w1 G n A :=
  ⟨fun v hv => by obtain ⟨u, c, r⟩ := h.rd v hv; exact ⟨u, cell_later hb c, r.on hb⟩, h.sz, h.len, h.lt⟩
theorem Gm.of {B : Nat} {w : World} {G n : Nat} {l : List (Nat × Nat)} (h : Nest B w (.slice (some ⟨G, 0, none⟩) n n) ((List.range n).map (adj l))) (hn : n ≤ 60) (hm : l.length ≤ 1000) (hl : ∀ x ∈ l, x.1 < n ∧ x.2 < n) : Gm w G n (adj l) := by
  refine ⟨fun v hv => ?_, hn, fun v => Nat.le_trans (adj_len l v) hm, fun v hv u hu => (hl _ ((mem_adj l v u).1 hu)).2⟩
  obtain ⟨vs, u, o, I, hu, ho, hc, hf, hne, hGs, hBG⟩ := h.factsF hv
  exact ⟨u, hc, ho.rd⟩
theorem Row.on {w w1 : World} {g n : Nat} {f : Nat → Int} (h : Row w g n f) (hb : Below w.heap.size w w1) : Row w1 g n f := Has.on h hb
theorem Row.rdz {w : World} {g n : Nat} {f : Nat → Int} (h : Row w g n f) : Rdz w (.slice (some ⟨g, 0, none⟩) n n) ((List.range n).map f) := by
  refine ⟨some ⟨g, 0, none⟩, n, by simp, fun j hj => ⟨_, rfl, ?_⟩⟩
  have hj' : j < n := by simpa using hj
  rw [Addr.add_lit, Nat.zero_add, h.read hj']
  simp
set_option maxRecDepth 100000 in
set_option maxHeartbeats 4000000 in
theorem order_any (G n : Nat) (A : Nat → List Nat) (w : World) (hG : Gm w G n A) :
    Calls Try.prog 43 #[.slice (some ⟨G, 0, none⟩) n n] w fun e w' => (∀ E, ordr A n n [] = some E → ∃ v, e = .returned (.tuple #[v, .bool true]) ∧ Own w.heap.size w' v E) ∧ (ordr A n n [] = none → e = .returned (.tuple #[.slice none 0 0, .bool false])) ∧ Below w.heap.size w w' := by
  have hn := hG.sz
  have hlen := hG.len
  obtain ⟨i0, hi, hz0, hz1, hz2⟩ := info_parts info3
  obtain ⟨R0, hR0⟩ : ∃ R, R = ordr A n n [] := ⟨_, rfl⟩
  rw [← hR0]
  have HF : Hid (ordr A n (n - 0) [] = R0) := Lib.hid (by rw [hR0]; rfl)
  clear hR0
  go_enter Try.func43, Try.ntmps43
  go_wp2_with (at_make; refine wpList_make_full _ rfl _ _ 23 rfl w.heap.size 3 i0 _ 1 Try.underlying23 hi hz0 hz1 _ _ _ _ n rfl rfl rfl rfl (by rw [hz2]; omega) (by unfold maxLen; omega) (Nat.le_refl _) ?_)
  intro w1 hown hgrow
  have hR := Lib.hid ((row_zero hown).cong (f' := cpre A 0 0) fun i _ => (cpre_zero A i).symm)
  have hB := below_grown (Below.refl _ w) hgrow (Nat.le_refl _)
  clear hown hgrow
  go_wp2
  go_loopw [18] (fun v wr => ∃ k : Nat, v = .int .i64 k ∧ k ≤ n ∧ Hid (Row wr w.heap.size n (cpre A k 0)) ∧ Below w.heap.size w wr) (fun v _ => n - (intOf v).toNat)
  case atStart => exact ⟨0, rfl, Nat.zero_le _, hR, hB⟩
  case round =>
    clear hR hB
    obtain ⟨k, rfl, hk, hR, hB⟩ := hrel
    by_cases hlt : k < n
    · have g1 : decide ((k : Int) < (n : Int)) = true := by simp [hlt]
      have W1 : IntKind.i64.wrap ((k : Int) + 1) = ((k + 1 : Nat) : Int) := by rw [IntWalk.i64_in _ (by omega)]; omega
      have q1 : (0 : Int) ≤ (k : Int) := by omega
      have q2 : (k : Int) < (n : Int) := by omega
      obtain ⟨u, cu, ru⟩ := hG.rd k hlt
      have cu := cell_later hB cu
      have hl := hlen k
      have hAl := hG.lt k hlt
      obtain ⟨q, c, rfl, r2⟩ := ru
      have HRU := Lib.hid r2
      have HLT := Lib.hid hlt
      clear r2
      go_wp2
      go_loopw [24] (fun v wr2 => ∃ j : Nat, v = .int .i64 j ∧ j ≤ (A k).length ∧ Hid (Row wr2 w.heap.size n (cpre A k j)) ∧ Below w.heap.size w wr2) (fun v _ => (A k).length - (intOf v).toNat)
      case atStart => exact ⟨0, rfl, Nat.zero_le _, hR, hB⟩
      case round =>
        clear hR hB cu
        obtain ⟨j, rfl, hj, hR, hB⟩ := hrel
        obtain ⟨W, hW⟩ : ∃ W, W = wr := ⟨_, rfl⟩
        subst hW
        by_cases hlt : j < (A k).length
        · have g2 : decide ((j : Int) < ((A k).length : Int)) = true := by simp [hlt]
          have W2 : IntKind.i64.wrap ((j : Int) + 1) = ((j + 1 : Nat) : Int) := by rw [IntWalk.i64_in _ (by omega)]; omega
          have q3 : (0 : Int) ≤ (j : Int) := by omega
          have q4 : (j : Int) < ((A k).length : Int) := by omega
          obtain ⟨g, rfl, cj⟩ := HRU.out j hlt
          have cj := cell_later hB cj
          have hx := hAl _ (List.getElem_mem hlt)
          have hnx := Lib.hid (cpre_next (A := A) (k := k) hlt)
          obtain ⟨x, hxx⟩ : ∃ x, x = (A k)[j] := ⟨_, rfl⟩
          rw [← hxx] at cj hx hnx
          clear hxx
          have hbd := cpre_bd A k j x 1000 hlen
          have cx := hR.out.read hx
          have fx := Has.open_ hR.out x
          obtain ⟨z, hz⟩ : ∃ z, z = cpre A k j x := ⟨_, rfl⟩
          rw [← hz] at cx hnx hbd
          clear hz
          have W3 : IntKind.i64.wrap (z + 1) = z + 1 := IntWalk.i64_in _ (by omega)
          have q5 : (0 : Int) ≤ (x : Int) := by omega
          have q6 : (x : Int) < (n : Int) := by omega
          have HR2 := Lib.hid ((hR.out.put x (z + 1)).cong fun i _ => hnx.out i)
          go_wp2
          exact ⟨⟨j + 1, rfl, hlt, HR2, hB.setCell (Nat.le_refl _) _⟩, by simp [intOf]; omega⟩
        · have g2 : decide ((j : Int) < ((A k).length : Int)) = false := by simp; omega
          have e : j = (A k).length := by omega
          subst e
          have HR2 := Lib.hid (hR.out.cong fun i _ => cpre_row A k i)
          have hlt := HLT.out
          go_wp2
          exact ⟨⟨k + 1, rfl, hlt, HR2, hB⟩, by simp [intOf]; omega⟩
    · have g1 : decide ((k : Int) < (n : Int)) = false := by simp; omega
      have e : k = n := by omega
      have HR := Lib.hid (hR.out.cong (f' := bef A n []) fun i _ => by rw [e]; exact cpre_end A n i)
      clear hR e
      have O0 : Own (w.heap.size + 1) wr (.slice none 0 0) [] := World.ownsRow_nil _ _ _ _
      have S0 : w.heap.size + 1 ≤ wr.heap.size := HR.out.size_
      have C0 : Hid (Clo A n []) := Lib.hid fun x hx => absurd hx (by simp)
      go_wp2
      go_loopw [9, 38] (fun v9 v wr => ∃ (k : Nat) (D : List Nat), v = .int .i64 k ∧ k ≤ n ∧ Hid (D.length = k) ∧ Hid (Row wr w.heap.size n (bef A n D)) ∧ Own (w.heap.size + 1) wr v9 D ∧ Hid (ordr A n (n - k) D = R0) ∧ Hid (Clo A n D) ∧ Below w.heap.size w wr ∧ w.heap.size + 1 ≤ wr.heap.size) (fun _ v _ => n - (intOf v).toNat)
      case atStart => exact ⟨0, [], rfl, Nat.zero_le _, Lib.hid rfl, HR, O0, HF, C0, hB, S0⟩
      case round =>
        clear HR O0 HF C0 hB S0 g1 hlt hk
        obtain ⟨k, D, rfl, hk, HL, HR, O, HF, HC, hB, hS⟩ := hrel
        by_cases hlt : k < n
        · have g1 : decide ((k : Int) < (n : Int)) = true := by simp [hlt]
          have W1 : IntKind.i64.wrap ((k : Int) + 1) = ((k + 1 : Nat) : Int) := by rw [IntWalk.i64_in _ (by omega)]; omega
          have hix := index_any (.slice (some ⟨w.heap.size, 0, none⟩) n n) ((List.range n).map (bef A n D)) 0 wr HR.out.rdz (by simp; omega)
          rw [ixo_nxt] at hix
          have ek : n - k = (n - (k + 1)) + 1 := by omega
          have HF2 := HF.out
          rw [ek, ordr] at HF2
          clear ek HF
          cases hx : nxt A n D with
          | none =>
            rw [hx] at hix HF2
            have HF3 := Lib.hid HF2
            clear HF2 hx
            go_wp2_with (go_at_call 29; (with_reducible refine hix.mono ?_); rintro e w2 ⟨rfl, rfl⟩)
            refine bodyPost_ret (v := .tuple #[.slice none 0 0, .bool false]) (by simp [results, Try.results43, go_sem]) rfl ⟨fun E hE => ?_, fun _ => rfl, hB⟩
            rw [← HF3.out] at hE; cases hE
          | some x =>
            rw [hx] at hix HF2
            simp only at hix HF2
            obtain ⟨hxn, hfr⟩ := nxt_some hx
            have HF3 := Lib.hid HF2
            have HFR := Lib.hid hfr
            have HE := Lib.hid (fun i => mdl_end hxn HC.out hfr i)
            have HC2 := Lib.hid (HC.out.snoc hfr)
            have hxl := hlen x
            have hAl := hG.lt x hxn
            have fx := Has.open_ HR.out x
            have cx := HR.out.read hxn
            have q5 : (0 : Int) ≤ (x : Int) := by omega
            have q6 : (x : Int) < (n : Int) := by omega
            have q7 : ¬ (x : Int) < 0 := by omega
            have HR2 := Lib.hid ((HR.out.put x (-1)).cong (f' := mdl A n D x 0) fun i _ => (mdl_zero A n D x i).symm)
            have hB2 := hB.setCell (p := ⟨w.heap.size, x, none⟩) (Nat.le_refl _) (.int .i64 (-1))
            have O2 : Own (w.heap.size + 1) (wr.setCell ⟨w.heap.size, x, none⟩ (.int .i64 (-1))) u9 D := own_at O ((At.refl _ _).put _ _) (fun e => by have := (O.lt _ e).1; omega)
            have hS2 : w.heap.size + 1 ≤ (wr.setCell ⟨w.heap.size, x, none⟩ (.int .i64 (-1))).heap.size := by simp [World.setCell]; omega
            obtain ⟨u, cu, ru⟩ := hG.rd x hxn
            obtain ⟨q, c, rfl, r2⟩ := ru
            have HRU := Lib.hid r2
            have cu2 := cell_later hB2 cu
            have HDL : Hid (D.length ≤ 60) := Lib.hid (by have := HL.out; omega)
            have HLT := Lib.hid hlt
            clear r2 HR HC HF2 hx hfr O cu hS hB
            go_wp2_with (go_at_call 29; (with_reducible refine hix.mono ?_); rintro e w2 ⟨rfl, rfl⟩)
            clear hix cx
            generalize hW : wr.setCell ⟨w.heap.size, x, none⟩ (.int .i64 (-1)) = wp at *
            clear hW
            go_loopw [52] (fun v wr2 => ∃ j : Nat, v = .int .i64 j ∧ j ≤ (A x).length ∧ Hid (Row wr2 w.heap.size n (mdl A n D x j)) ∧ Below w.heap.size w wr2 ∧ Own (w.heap.size + 1) wr2 u9 D ∧ w.heap.size + 1 ≤ wr2.heap.size) (fun v _ => (A x).length - (intOf v).toNat)
            case atStart => exact ⟨0, rfl, Nat.zero_le _, HR2, hB2, O2, hS2⟩
            case round =>
              clear HR2 hB2 O2 hS2 cu2
              obtain ⟨j, rfl, hj, hR, hB, hO, hS⟩ := hrel
              by_cases hlt : j < (A x).length
              · have g2 : decide ((j : Int) < ((A x).length : Int)) = true := by simp [hlt]
                have W2 : IntKind.i64.wrap ((j : Int) + 1) = ((j + 1 : Nat) : Int) := by rw [IntWalk.i64_in _ (by omega)]; omega
                have q3 : (0 : Int) ≤ (j : Int) := by omega
                have q4 : (j : Int) < ((A x).length : Int) := by omega
                obtain ⟨g, rfl, cj⟩ := HRU.out j hlt
                have cj := cell_later hB cj
                have hy := hAl _ (List.getElem_mem hlt)
                have hnx := Lib.hid (mdl_next (A := A) (n := n) (D := D) (node := x) hlt)
                obtain ⟨y, hyy⟩ : ∃ y, y = (A x)[j] := ⟨_, rfl⟩
                rw [← hyy] at cj hy hnx
                clear hyy
                have hbd := mdl_bd A n D x j y 1000 hlen
                have cy := hR.out.read hy
                have fy := Has.open_ hR.out y
                obtain ⟨z, hz⟩ : ∃ z, z = mdl A n D x j y := ⟨_, rfl⟩
                rw [← hz] at cy hnx hbd
                clear hz
                have W3 : IntKind.i64.wrap (z - 1) = z - 1 := IntWalk.i64_in _ (by omega)
                have q8 : (0 : Int) ≤ (y : Int) := by omega
                have q9 : (y : Int) < (n : Int) := by omega
                have HR3 := Lib.hid ((hR.out.put y (z - 1)).cong fun i _ => hnx.out i)
                have O3 : Own (w.heap.size + 1) (wr.setCell ⟨w.heap.size, y, none⟩ (.int .i64 (z - 1))) u9 D := own_at hO ((At.refl _ _).put _ _) (fun e => by have := (hO.lt _ e).1; omega)
                go_wp2
                exact ⟨⟨j + 1, rfl, hlt, HR3, hB.setCell (Nat.le_refl _) _, O3, by simp [World.setCell]; omega⟩, by simp [intOf]; omega⟩
              · have g2 : decide ((j : Int) < ((A x).length : Int)) = false := by simp; omega
                have e : j = (A x).length := by omega
                subst e
                have HR3 := Lib.hid (hR.out.cong fun i _ => HE.out i)
                have hdl := HDL.out
                clear hR
                go_wp2_with (at_builtin; refine wpList_append_own_at _ rfl _ _ 23 rfl (w.heap.size + 1) 3 i0 _ 1 8 Try.underlying23 hi hz0 hz1 hz2 rfl (by decide) _ D.length (ints D) rfl (own_on hO (al1 _ _)) ⟨_, 0, none⟩ 1 1 [.int .i64 (x : Int)] rfl rfl (cell_one_new _ _ _) (by simp [Value.oneCell']) (by unfold maxLen; omega) (by omega) (Nat.le_trans hS (al1 _ _).size) ?_)
                intro v' w3 o1 o2 o3 o4
                have ob := al1 wr (.cells #[.int .i64 (x : Int)] 3)
                have HR4 := Lib.hid (Has.grown_ (HR3.out.on ob) o2 (fun e => by have := (hO.lt _ e.symm).1; omega))
                have O4 : Own (w.heap.size + 1) w3 v' (D ++ [x]) := by
                  unfold Own
                  rw [ints_app, List.length_append]
                  exact o1
                have hB4 : Below w.heap.size w w3 := (hB.trans (ob.mono (by omega))).grown o2 (by have := ob.size; omega) (fun j hj => by have := (hO.lt _ hj).1; omega)
                have hS4 : w.heap.size + 1 ≤ w3.heap.size := Nat.le_trans hS (Nat.le_trans ob.size o2.size)
                have hlt := HLT.out
                clear o1 o2 o3 o4 ob
                go_wp2
                exact ⟨⟨k + 1, D ++ [x], rfl, hlt, Lib.hid (by rw [List.length_append, HL.out]; rfl), HR4, O4, HF3, HC2, hB4, hS4⟩, by simp [intOf]; omega⟩
        · have g1 : decide ((k : Int) < (n : Int)) = false := by simp; omega
          have e : k = n := by omega
          have HF2 := HF.out
          rw [show n - k = 0 by omega, ordr] at HF2
          have HF3 := Lib.hid HF2
          clear HF HF2 e
          go_wp2
          refine bodyPost_ret (v := .tuple #[u9, .bool true]) (by simp [results, Try.results43, go_sem]) rfl ⟨fun E hE => ?_, fun h => ?_, hB⟩
          · rw [← HF3.out] at hE
            simp only [Option.some.injEq] at hE
            subst hE
            exact ⟨_, rfl, Own.mono O (Nat.le_succ _)⟩
          · rw [← HF3.out] at h; cases h
end Go.Proofs.Yteofbbakegcohaa
