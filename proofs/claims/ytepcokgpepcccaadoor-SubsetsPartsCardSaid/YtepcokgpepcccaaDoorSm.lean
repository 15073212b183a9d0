/- The program's list of the sums of all subsets. -/
import Derived.Test.YtepcokgpepcccaaDoorSm0
namespace Go.Proofs.YtepcokgpepcccaaDoor
open Go.ChangeShapes Go.WideShapes Go.ChangeAt Go.RowKit
set_option linter.unusedVariables false
set_option linter.unusedSimpArgs false

theorem made_one (n : Nat) (h : 1 ≤ n) : (madeCells (Value.cells (.int .i64 0)) n).toList.take 1 = zv [0] := by
  obtain ⟨m, rfl⟩ : ∃ m, n = m + 1 := ⟨n - 1, by omega⟩
  rw [show Value.cells (.int .i64 0) = #[Value.int .i64 0] from rfl, toList_madeCells_one]
  simp [zv, List.replicate_succ]
theorem run_make_one (w : World) (i : TypeInfo) (hi : Tryd.prog.info? 3 = some i) (hz : i.zero = some (.int .i64 0)) (hs : i.size = 1) (hb : i.bytes = 8) (c : Nat) (h0 : 1 ≤ c) (h1 : c ≤ 100000) :
    ∃ w', (Instr.makeSlice 22 (.int .i64 1) (.int .i64 (c : Int))).run Tryd.prog w = .ok (.slice (some ⟨w.heap.size, 0, none⟩) 1 c) w' ∧ OwnZ w.heap.size w' (.slice (some ⟨w.heap.size, 0, none⟩) 1 c) [0] ∧ w.grownBy w' none := by
  have r := run_make (P := Tryd.prog) w 22 3 i (.int .i64 0) Tryd.underlying22 hi hz .i64 .i64 1 (c : Int) (by omega) (by omega) (by rw [hb]; omega) (by omega)
  have e : (w.alloc (.cells (madeCells (Value.cells (.int .i64 0)) ((c : Int).toNat * i.size)) 3)).heap[w.heap.size]? = some (.cells (madeCells (Value.cells (.int .i64 0)) ((c : Int).toNat * i.size)) 3 (0, 0)) := heap_alloc_new w _
  refine ⟨_, r, ⟨rfl, .inr ⟨w.heap.size, c, _, rfl, Nat.le_refl _, e, h0, by unfold maxLen; omega, ?_, ?_⟩⟩, World.grownBy_alloc w _ none⟩
  · rw [size_madeCells, hs]; simp
  · rw [hs]
    exact made_one _ (by simp; omega)
theorem wpList_make_one (w : World) {ops : Array Oper} {rest : List Oper} {o : Oper} {a : Act} {Q : Exit → Act → World → Prop}
    (hg : o.guard = none) (l c : Operand) (hop : o.op = Op.makeSlice 22 l c) (i : TypeInfo) (hi : Tryd.prog.info? 3 = some i) (hz : i.zero = some (.int .i64 0)) (hs : i.size = 1) (hb : i.bytes = 8)
    (C : Int) (n : Nat) (hl : a.eval l = .int .i64 1) (hc : a.eval c = .int .i64 C) (hC : C = (n : Int)) (h0 : 1 ≤ n) (h1 : n ≤ 100000)
    (hK : ∀ w', OwnZ w.heap.size w' (.slice (some ⟨w.heap.size, 0, none⟩) 1 n) [0] → w.grownBy w' none → wpList Tryd.prog ops Q rest (a.put o.dst (.slice (some ⟨w.heap.size, 0, none⟩) 1 n)) w') :
    wpList Tryd.prog ops Q (o :: rest) a w := by
  refine wpList_plain hg fun K hK' => ?_
  obtain ⟨w', hrun, r1, r2⟩ := run_make_one w i hi hz hs hb n h0 h1
  subst hC
  unfold Oper.wp
  simp [execOp, hop, hl, hc, hrun, Result.andThen]
  exact hK' _ _ (hK w' r1 r2)
theorem smo_in {zs : List Int} (h : allZ zs = true) : ∀ k : Nat, ∀ z ∈ smo zs k, -(1125899906842624 * (k : Int)) ≤ z ∧ z ≤ 1125899906842624 * (k : Int)
  | 0 => by
    intro z hz
    rw [smo, List.mem_singleton] at hz
    subst hz
    simp
  | k + 1 => by
    intro z hz
    have b := okz_of h k
    rw [smo, List.mem_append, List.mem_map] at hz
    rcases hz with hz | ⟨y, hy, rfl⟩
    · have := smo_in h k z hz; omega
    · have := smo_in h k y hy; omega
/-- The list of sums while number x is put in: j of them are done. -/
def mids (S : List Int) (x : Int) (j : Nat) : List Int := S ++ (S.take j).map (· + x)
theorem mids_len (S : List Int) (x : Int) (j : Nat) (h : j ≤ S.length) : (mids S x j).length = S.length + j := by simp [mids]; omega
theorem mids_next (S : List Int) (x : Int) (j : Nat) (h : j < S.length) : mids S x (j + 1) = mids S x j ++ [S[j] + x] := by
  rw [mids, mids, List.take_succ_eq_append_getElem h, List.map_append, List.append_assoc]; rfl
theorem mids_at (S : List Int) (x : Int) (j k : Nat) (h : k < S.length) (h2 : k < (mids S x j).length) : (mids S x j)[k] = S[k] := by
  simp only [mids]; rw [List.getElem_append_left h]
theorem OwnZ.at_ {B : Nat} {w : World} {g n c : Nat} {zs : List Int} (h : OwnZ B w (.slice (some ⟨g, 0, none⟩) n c) zs) {j : Nat} (hj : j < zs.length) : w.cell? ⟨g, j, none⟩ = some (.int .i64 zs[j]) := by
  obtain ⟨q, c', e, k⟩ := h.cell
  obtain ⟨a, ha, hc⟩ := k j hj
  cases e
  cases ha
  rw [Addr.add_lit, Nat.zero_add] at hc
  exact hc
set_option maxRecDepth 100000 in
set_option maxHeartbeats 2000000 in
theorem sumsOf_any (u : Value) (zs : List Int) (w : World) (hR : Rdz w u zs) (hl : zs.length ≤ 10) (hz : allZ zs = true) :
    Calls Tryd.prog 39 #[u] w fun e w' => e = .returned (.slice (some ⟨w.heap.size, 0, none⟩) (2 ^ zs.length) (2 ^ zs.length)) ∧ OwnZ w.heap.size w' (.slice (some ⟨w.heap.size, 0, none⟩) (2 ^ zs.length) (2 ^ zs.length)) (sums zs) ∧ Below w.heap.size w w' := by
  obtain ⟨i0, hi, hz0, hz1, hz2⟩ := info_parts info3
  obtain ⟨q, c, rfl, hq⟩ := hR
  have HQ := Lib.hid hq
  clear hq
  have hN1 : 1 ≤ 2 ^ zs.length := Nat.one_le_two_pow
  have hN2 : 2 ^ zs.length ≤ 1024 := Nat.pow_le_pow_right (n := 2) (by omega) hl
  have hpow := fun k (h : k ≤ zs.length) => Nat.pow_le_pow_right (n := 2) (by omega) h
  have hcast : (2 : Int) ^ zs.length = ((2 ^ zs.length : Nat) : Int) := by simp
  obtain ⟨N, hN⟩ : ∃ N, 2 ^ zs.length = N := ⟨_, rfl⟩
  have W0 : wrap64 ((2 : Int) ^ zs.length) = (N : Int) := by rw [hcast, hN]; unfold wrap64; rw [hN] at hN2; omega
  rw [hN] at hN1 hN2 ⊢
  have HN := Lib.hid hN
  have HP := Lib.hid hpow
  clear hN hcast hpow
  go_enter Tryd.func39, Tryd.ntmps39
  go_wp2_with (at_make; refine wpList_make_one _ rfl _ _ rfl i0 hi hz0 hz1 hz2 _ N rfl rfl W0 hN1 (by omega) ?_)
  intro w1 hown hgrow
  have HO := Lib.hid hown
  have hB : Below w.heap.size w w1 := (Below.refl _ w).grown hgrow (Nat.le_refl _) (fun k hk => by cases hk)
  clear hown hgrow
  go_wp2
  go_loopw [14, 3] (fun v v3 wr => ∃ k m : Nat, v = .int .i64 k ∧ k ≤ zs.length ∧ v3 = .slice (some ⟨w.heap.size, 0, none⟩) m N ∧ Hid (m = 2 ^ k) ∧ Hid (OwnZ w.heap.size wr (.slice (some ⟨w.heap.size, 0, none⟩) m N) (smo zs k)) ∧ Below w.heap.size w wr) (fun v _ _ => zs.length - (intOf v).toNat)
  case atStart => exact ⟨0, 1, rfl, Nat.zero_le _, rfl, Lib.hid rfl, HO, hB⟩
  case round =>
    clear HO hB
    obtain ⟨k, m, rfl, hk, rfl, hm, hO, hB⟩ := hrel
    by_cases hlt : k < zs.length
    · have g : decide ((k : Int) < (zs.length : Int)) = true := by simp [hlt]
      have W1 : IntKind.i64.wrap ((k : Int) + 1) = ((k + 1 : Nat) : Int) := by rw [IntWalk.i64_in _ (by omega)]; omega
      obtain ⟨a, rfl, cu⟩ := HQ.out k hlt
      have cu := cell_later hB cu
      have ez : zs[k] = zs.getD k 0 := by simp [List.getD, hlt]
      have hx := okz_of hz k
      have hS := smo_in hz k
      have hSl : (smo zs k).length = m := by rw [smo_len, hm.out]
      have e1 : Hid (smo zs (k + 1) = mids (smo zs k) (zs.getD k 0) m) := Lib.hid (by rw [smo, mids, ← hSl, List.take_length])
      have hmN : m + m ≤ N := by
        have := HP.out (k + 1) hlt
        rw [Nat.pow_succ] at this
        rw [hm.out, ← HN.out]; omega
      rw [ez] at cu
      obtain ⟨x, hxx⟩ : ∃ x, x = zs.getD k 0 := ⟨_, rfl⟩
      obtain ⟨S, hSS⟩ : ∃ S, S = smo zs k := ⟨_, rfl⟩
      rw [← hxx] at cu hx e1
      rw [← hSS] at hS hSl e1 hO
      have HS := Lib.hid hS
      have HSl := Lib.hid hSl
      have hml : m ≤ 1024 := by omega
      have hm2 := hm
      clear ez hxx hSS hS hSl
      have q1 : (0 : Int) ≤ (k : Int) := by omega
      have q2 : (k : Int) < (zs.length : Int) := by omega
      go_wp2
      go_loopw [20, 3] (fun v v3 wr => ∃ j n : Nat, v = .int .i64 j ∧ j ≤ m ∧ v3 = .slice (some ⟨w.heap.size, 0, none⟩) n N ∧ Hid (n = m + j) ∧ Hid (OwnZ w.heap.size wr (.slice (some ⟨w.heap.size, 0, none⟩) n N) (mids S x j)) ∧ Below w.heap.size w wr) (fun v _ _ => m - (intOf v).toNat)
      case atStart => exact ⟨0, m, rfl, Nat.zero_le _, rfl, Lib.hid rfl, Lib.hid (by simpa [mids] using hO.out), hB⟩
      case round =>
        clear hO hB cu
        obtain ⟨j, n, rfl, hj, rfl, hn, hO, hB⟩ := hrel
        by_cases hlt2 : j < m
        · have g2 : decide ((j : Int) < (m : Int)) = true := by simp [hlt2]
          have W2 : IntKind.i64.wrap ((j : Int) + 1) = ((j + 1 : Nat) : Int) := by rw [IntWalk.i64_in _ (by omega)]; omega
          have hjS : j < S.length := by rw [HSl.out]; exact hlt2
          have hlen := mids_len S x j (Nat.le_of_lt hjS)
          have c1 := hO.out.at_ (j := j) (by rw [hlen]; omega)
          rw [mids_at S x j j hjS] at c1
          have hy := HS.out _ (List.getElem_mem hjS)
          have e2 : Hid (mids S x (j + 1) = mids S x j ++ [S[j] + x]) := Lib.hid (mids_next S x j hjS)
          obtain ⟨y, hyy⟩ : ∃ y, y = S[j] := ⟨_, rfl⟩
          rw [← hyy] at c1 hy e2
          have W3 : IntKind.i64.wrap (y + x) = y + x := IntWalk.i64_in _ (by omega)
          have hnl : n + 1 ≤ N := by rw [hn.out]; omega
          have hlen2 : (mids S x j).length = n := by rw [hlen, HSl.out, hn.out]
          have HL := Lib.hid hlen2
          have HO2 : Hid (World.ownsRow wr w.heap.size 3 1 (.slice (some ⟨w.heap.size, 0, none⟩) n N) n (zv (mids S x j))) := Lib.hid (by
            have := hO.out
            unfold OwnZ at this
            rw [hlen2] at this
            exact this)
          clear hyy hlen hlen2 hjS hy
          have q3 : (0 : Int) ≤ (j : Int) := by omega
          have q4 : (j : Int) < (m : Int) := by omega
          go_wp2_with (at_builtin; refine wpList_append_fits _ rfl _ _ 22 rfl w.heap.size 3 i0 1 Tryd.underlying22 hi hz1 w.heap.size n N (zv (mids S x j)) rfl (own_on HO2.out (al1 _ _)) ⟨_, 0, none⟩ 1 1 [.int .i64 (y + x)] rfl rfl (cell_one_new _ _ _) (by simp [Value.oneCell']) hnl ?_)
          intro w2 o1 o2
          have O2 : Hid (OwnZ w.heap.size w2 (.slice (some ⟨w.heap.size, 0, none⟩) (n + 1) N) (mids S x (j + 1))) := Lib.hid (by
            rw [e2.out]
            unfold OwnZ
            rw [zv_app, List.length_append, HL.out]
            exact o1)
          have B2 : Below w.heap.size w w2 := (hB.alloc hB.size _).grown o2 (Nat.le_trans hB.size (al1 _ _).size) (fun k hk => by cases hk; exact Nat.le_refl _)
          clear o1 o2
          go_wp2
          exact ⟨⟨j + 1, n + 1, rfl, hlt2, rfl, Lib.hid (by rw [hn.out]; rfl), O2, B2⟩, by simp [intOf]; omega⟩
        · have g2 : decide ((j : Int) < (m : Int)) = false := by simp; omega
          have e : j = m := by omega
          subst e
          go_wp2
          exact ⟨⟨k + 1, n, rfl, hlt, rfl, Lib.hid (by rw [hn.out, Nat.pow_succ, ← hm2.out]; omega), Lib.hid (by rw [e1.out]; exact hO.out), hB⟩, by simp [intOf]; omega⟩
    · have g : decide ((k : Int) < (zs.length : Int)) = false := by simp; omega
      have e : k = zs.length := by omega
      have hmN : m = N := by rw [hm.out, e, HN.out]
      have HE := Lib.hid e
      subst hmN
      clear e
      go_wp2
      go_ret
      exact ⟨rfl, by rw [sums, ← HE.out]; exact hO.out, hB⟩
end Go.Proofs.YtepcokgpepcccaaDoor
