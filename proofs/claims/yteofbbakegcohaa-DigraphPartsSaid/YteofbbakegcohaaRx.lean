/- What a node reaches: reach. -/
import Derived.Test.YteofbbakegcohaaRv
namespace Go.Proofs.Yteofbbakegcohaa
open Go.ChangeShapes Go.WideShapes Go.ChangeAt Go.RowKit
set_option linter.unusedVariables false
set_option linter.unusedSimpArgs false


/-- The nodes that v reaches, ascending. -/
def rch (A : Nat → List Nat) (n v : Nat) : List Nat := (List.range n).filter (rmk A n v)
theorem mem_rch {A : Nat → List Nat} {n v : Nat} (hA : ∀ v, v < n → ∀ u ∈ A v, u < n) (hv : v < n) (x : Nat) : x ∈ rch A n v ↔ Rch A v x := by
  unfold rch
  rw [List.mem_filter, List.mem_range, rmk_iff hA hv]
  exact ⟨fun h => h.2, fun h => ⟨h.closed (P := fun x => x < n) (fun x hx y hy => hA x hx y hy) hv, h⟩⟩
theorem rch_len (A : Nat → List Nat) (n v : Nat) : (rch A n v).length ≤ n := by
  unfold rch
  exact Nat.le_trans (List.length_filter_le _ _) (by simp)
theorem filter_next (f : Nat → Bool) (i : Nat) : (List.range (i + 1)).filter f = if f i = true then (List.range i).filter f ++ [i] else (List.range i).filter f := by
  rw [List.range_succ, List.filter_append]
  by_cases h : f i = true
  · rw [if_pos h]; simp [h]
  · rw [if_neg h]; simp [h]
set_option maxRecDepth 100000 in
set_option maxHeartbeats 8000000 in
theorem reach_any (G n v : Nat) (A : Nat → List Nat) (w : World) (hG : Gm w G n A) (hv : v < n) :
    Calls Try.prog 58 #[.slice (some ⟨G, 0, none⟩) n n, .int .i64 v] w fun e w' => ∃ u, e = .returned u ∧ Own w.heap.size w' u (rch A n v) ∧ Below w.heap.size w w' := by
  have hn := hG.sz
  obtain ⟨i0, hi, hz0, hz1, hz2⟩ := info_parts info3
  obtain ⟨b0, hb, hb0, hb1, hb2⟩ := info_parts info4
  obtain ⟨M, hM⟩ : ∃ M, M = rmk A n v := ⟨_, rfl⟩
  have er : rch A n v = (List.range n).filter M := by rw [hM]; rfl
  rw [er]
  clear er
  have HM := Lib.hid hM
  clear hM
  have HG := Lib.hid hG
  clear hG
  go_enter Try.func58, Try.ntmps58
  go_wp2_with (at_make; refine wpList_make_full _ rfl _ _ 65 rfl w.heap.size 4 b0 _ 1 Try.underlying65 hb hb0 hb1 _ _ _ _ n rfl rfl rfl rfl (by rw [hb2]; omega) (by unfold maxLen; omega) (by simp) ?_)
  intro w1 hown hgrow
  have H1 := Has.new_ w 66 #[.slice (some ⟨G, 0, none⟩) n n]
  have x1 := al1 w (.cells #[.slice (some ⟨G, 0, none⟩) n n] 66)
  obtain ⟨a1, ha1⟩ : ∃ a, a = w.alloc (.cells #[.slice (some ⟨G, 0, none⟩) n n] 66) := ⟨_, rfl⟩
  have s1 : a1.heap.size = w.heap.size + 1 := by rw [ha1]; simp
  rw [← ha1] at H1 x1 hgrow
  have x2 := below_grown (Below.refl _ a1) hgrow (Nat.le_refl _)
  obtain ⟨R, hRe⟩ : ∃ R, R = w.heap.size + 1 := ⟨_, rfl⟩
  rw [← hRe] at hown
  have hR := rowb_zero hown
  have hRs := hR.size_
  have HB1 := H1.on x2
  have bw1 := belows x1 x2
  have y1 := al1 w1 (.cells #[.slice (some ⟨R, 0, none⟩) n n] 65)
  have HS1 := Has.new_ w1 65 #[.slice (some ⟨R, 0, none⟩) n n]
  obtain ⟨b1, hb1e⟩ : ∃ a, a = w1.alloc (.cells #[.slice (some ⟨R, 0, none⟩) n n] 65) := ⟨_, rfl⟩
  have t1 : b1.heap.size = w1.heap.size + 1 := by rw [hb1e]; simp
  rw [← hb1e] at y1 HS1
  have y2 := al1 b1 (.cells #[.func (.func 74) #[] #[.pointer (some ⟨w1.heap.size, 0, none⟩), .pointer (some ⟨w.heap.size, 0, none⟩), .pointer (some ⟨w1.heap.size + 1, 0, none⟩)]] 97)
  have HF2 := Has.new_ b1 97 #[.func (.func 74) #[] #[.pointer (some ⟨w1.heap.size, 0, none⟩), .pointer (some ⟨w.heap.size, 0, none⟩), .pointer (some ⟨w1.heap.size + 1, 0, none⟩)]]
  rw [t1] at HF2
  have y12 := belows y1 y2
  have hC := rvisit_any n G w1.heap.size w.heap.size (w1.heap.size + 1) R A w _ HG.out (by omega) (belows bw1 y12) (HS1.on y2) (HB1.on y12) HF2 (by omega) (by omega) (by omega) n v (fun _ => false) _ hv rfl (zc_le _ n) (At.refl _ _) (RowB.on hR y12)
  have HS2 := HS1.on y2
  have bw2 := belows bw1 y12
  rw [hb1e] at hC HS2 bw2
  have HC := Lib.hid hC
  have HS2 := Lib.hid HS2
  have hnS : w1.heap.size ≠ R := by omega
  have cF := HF2.read 0
  rw [hb1e] at cF
  have hw1 : w.heap.size ≤ R := by omega
  subst hRe
  clear hC hown hgrow H1 x1 ha1 s1 x2 hR HB1 bw1 y1 HS1 hb1e t1 y2 HF2 y12 hRs
  go_wp2_with (go_at_call 74; (with_reducible refine HC.out.mono ?_); rintro e w3 ⟨rfl, hA3, hR3⟩; have cS := (HS2.out.at_ hA3 hnS).read 0)
  have bw3 := bw2.trans (hA3.below hw1)
  have hR3 : RowB w3 (w.heap.size + 1) n M := by rw [HM.out]; exact hR3
  have HR3 := Lib.hid hR3
  have O0 : Own w3.heap.size w3 (.slice none 0 0) [] := World.ownsRow_nil _ _ _ _
  have HBW := Lib.hid bw3
  clear hA3 hR3 HC HS2 bw2 bw3 hnS cF hw1 HG HM
  go_loopw [7, 19] (fun v7 v19 wr => ∃ (i : Nat) (D : List Nat) (q : Option Addr) (c : Nat), v7 = .slice q D.length c ∧ v19 = .int .i64 i ∧ i ≤ n ∧ D.length ≤ i ∧ Hid ((List.range i).filter M = D) ∧ Own w3.heap.size wr (.slice q D.length c) D ∧ Below w3.heap.size w3 wr) (fun _ x _ => n - (intOf x).toNat)
  case atStart => exact ⟨0, [], none, 0, rfl, rfl, Nat.zero_le _, Nat.zero_le _, Lib.hid rfl, O0, Below.refl _ _⟩
  case round =>
    clear O0
    obtain ⟨i, D, q, c, rfl, rfl, hk, hdl, HD, O, hB⟩ := hrel
    by_cases hlt : i < n
    · have g1 : decide ((i : Int) < (n : Int)) = true := by simp [hlt]
      have W1 : IntKind.i64.wrap ((i : Int) + 1) = ((i + 1 : Nat) : Int) := by rw [IntWalk.i64_in _ (by omega)]; omega
      have q1 : (0 : Int) ≤ (i : Int) := by omega
      have q2 : (i : Int) < (n : Int) := by omega
      have c1 := (HR3.out.on hB).read hlt
      have hft := filter_next M i
      rw [HD.out] at hft
      cases hm : M i
      · rw [hm] at c1
        rw [if_neg (by rw [hm]; simp)] at hft
        have HD2 := Lib.hid hft
        clear hft hm
        go_wp2
        exact ⟨⟨i + 1, D, q, c, rfl, rfl, hlt, by omega, HD2, O, hB⟩, by simp [intOf]; omega⟩
      · rw [hm] at c1
        rw [if_pos hm] at hft
        have HD2 := Lib.hid hft
        have hdl60 : D.length ≤ 60 := by omega
        clear hft hm
        go_wp2_with (at_builtin; refine wpList_append_own_at _ rfl _ _ 23 rfl w3.heap.size 3 i0 _ 1 8 Try.underlying23 hi hz0 hz1 hz2 rfl (by decide) _ D.length (ints D) rfl (own_on O (al1 _ _)) ⟨_, 0, none⟩ 1 1 [.int .i64 (i : Int)] rfl rfl (cell_one_new _ _ _) (by simp [Value.oneCell']) (by unfold maxLen; omega) (by omega) (Nat.le_trans hB.size (al1 _ _).size) ?_)
        intro v' w4 o1 o2 o3 o4
        obtain ⟨gq, cq, rfl, -, -⟩ := World.ownsRow.form o1 (Nat.succ_pos _)
        have ob := al1 wr (.cells #[.int .i64 (i : Int)] 3)
        have el : (D ++ [i]).length = D.length + 1 := by simp
        have O4 : Own w3.heap.size w4 (.slice (some ⟨gq, 0, none⟩) (D.length + 1) cq) (D ++ [i]) := by
          unfold Own
          rw [ints_app, List.length_append]
          exact o1
        have hB4 : Below w3.heap.size w3 w4 := (hB.trans (ob.mono hB.size)).grown o2 (by have := ob.size; have := hB.size; omega) (fun j hj => (O.lt _ hj).1)
        have HEL := Lib.hid el
        clear o1 o2 o3 o4 ob el
        go_wp2
        exact ⟨⟨i + 1, D ++ [i], some ⟨gq, 0, none⟩, cq, by rw [HEL.out], rfl, hlt, by rw [HEL.out]; omega, HD2, by rw [HEL.out]; exact O4, hB4⟩, by simp [intOf]; omega⟩
    · have g1 : decide ((i : Int) < (n : Int)) = false := by simp; omega
      have e : i = n := by omega
      have HE : Hid ((List.range n).filter M = D) := Lib.hid (by rw [← e]; exact HD.out)
      clear e HD
      go_wp2
      go_ret
      exact ⟨_, rfl, by rw [HE.out]; exact Own.mono O HBW.out.size, belows HBW.out hB⟩
end Go.Proofs.Yteofbbakegcohaa
