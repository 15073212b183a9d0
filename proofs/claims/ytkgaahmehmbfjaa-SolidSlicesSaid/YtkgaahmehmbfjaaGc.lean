/- slices.Grow and slices.Concat of boxes. -/
import Derived.Test.YtkgaahmehmbfjaaTa
import Derived.Shelf.Spec.SlicesGrow
import Derived.Laws.AppendOwnNone
namespace Go.Proofs
def Try.grow_ren : Go.Shelf.Ren := ⟨fun | 4 => 61 | x => x, fun | 22 => 22 | 25 => 30 | x => x, fun x => x⟩
theorem Try.growP : Lays8.n4 Try.prog Try.grow_ren := {
  mixed := by kernel_rfl
  f4 := ⟨"slices.Grow[[]stirrup/api.Box,stirrup/api.Box]", by decide, Try.func61.trans (congrArg some (by kernel_rfl))⟩
  t0 := Try.underlying0
  a0 := Try.isAgg0
  z0 := Try.sizeOf0
  v0 := Try.zeroValue0
  t3 := Try.underlying3
  a3 := Try.isAgg3
  z3 := Try.sizeOf3
  v3 := Try.zeroValue3
  t4 := Try.underlying4
  a4 := Try.isAgg4
  z4 := Try.sizeOf4
  v4 := Try.zeroValue4
  t9 := Try.underlying9
  a9 := Try.isAgg9
  z9 := Try.sizeOf9
  v9 := Try.zeroValue9
  t20 := Try.underlying20
  a20 := Try.isAgg20
  z20 := Try.sizeOf20
  v20 := Try.zeroValue20
  t22 := Try.underlying22
  a22 := Try.isAgg22
  z22 := Try.sizeOf22
  v22 := Try.zeroValue22 }
end Go.Proofs
namespace Go.Proofs.Ytkgaahmehmbfjaa
open Go.ChangeShapes Go.WideShapes Go.ChangeAt Go.RowKit
set_option linter.unusedVariables false
set_option linter.unusedSimpArgs false

def kb (x : Bx) : List Value := [.int .i64 x.a, .int .i64 x.b, .int .i64 x.c, .int .i64 x.d, .int .i64 x.e, .int .i64 x.f]
theorem kl (x : Bx) : (kb x).length = 6 := rfl
theorem info30 : (Try.prog.info? 30).map (fun i => (i.zero, i.size, i.bytes)) = some (some (.agg #[.int .i64 0, .int .i64 0, .int .i64 0, .int .i64 0, .int .i64 0, .int .i64 0]), 6, 48) := by kernel_rfl
theorem own_kl {B : Nat} {w : World} {v : Value} {l : List Bx} (h : Own kb 30 6 B w v l) (hl : l.length ≤ 1000) : ∃ q c, v = .slice q l.length c ∧ Sl w q l := by
  obtain ⟨q, c, rfl, hC⟩ := Own.rd kl h
  refine ⟨q, c, rfl, ?_, ?_, by unfold maxLen; omega⟩
  · intro e
    rcases l with _ | ⟨x, l⟩
    · rfl
    · obtain ⟨g, e2, -⟩ := hC 0 (by simp); rw [e] at e2; cases e2
  · intro a e i hi
    obtain ⟨g, e2, hc⟩ := hC i hi
    rw [e] at e2
    cases e2
    have ad : (⟨g, 0, none⟩ : Addr).add (i * 6) = ⟨g, i * 6, none⟩ := by unfold Addr.add; split <;> simp_all
    rw [ad]
    exact ⟨hc 0 (by omega), hc 1 (by omega), hc 2 (by omega), hc 3 (by omega), hc 4 (by omega), hc 5 (by omega)⟩
theorem sl_news {w : World} {a : Addr} {l : List Bx} (h : Sl w (some a) l) : ∀ j u, (l.flatMap kb)[j]? = some u → w.cell? (a.add j) = some u := by
  intro j u hj
  have hlen : j < l.length * 6 := by rw [← flat_len kb 6 kl]; exact (List.getElem?_eq_some_iff.1 hj).1
  have hi : j / 6 < l.length := by omega
  have e := flat_at kb 6 kl l (j / 6) hi (j % 6) (by omega)
  rw [show j / 6 * 6 + j % 6 = j by omega] at e
  rw [e] at hj
  obtain ⟨h0, h1, h2, h3, h4, h5⟩ := h.2.1 a rfl (j / 6) hi
  have ad : ∀ r, 0 < r → a.add (j / 6 * 6 + r) = ⟨(a.add (j / 6 * 6)).block, (a.add (j / 6 * 6)).off + r, none⟩ := fun r hr => by
    rw [← Go.Deep.add_add, Addr.add.eq_1 (a.add (j / 6 * 6)) r, if_neg (by omega)]
  have hr : j = j / 6 * 6 + j % 6 := by omega
  rcases (by omega : j % 6 = 0 ∨ j % 6 = 1 ∨ j % 6 = 2 ∨ j % 6 = 3 ∨ j % 6 = 4 ∨ j % 6 = 5) with q | q | q | q | q | q
  all_goals rw [q] at hj hr
  · rw [hr, Nat.add_zero, h0]; exact hj
  · rw [hr, ad 1 (by omega), h1]; exact hj
  · rw [hr, ad 2 (by omega), h2]; exact hj
  · rw [hr, ad 3 (by omega), h3]; exact hj
  · rw [hr, ad 4 (by omega), h4]; exact hj
  · rw [hr, ad 5 (by omega), h5]; exact hj
theorem own_empty (w : World) (C : Array Value) (G : Nat) (hG : G ≤ maxLen) (hC : C.size = G * 6) : Own kb 30 6 w.heap.size (w.drew.alloc (.cells C 30)) (.slice (some ⟨w.heap.size, 0, none⟩) 0 G) [] :=
  ⟨rfl, .inr ⟨w.heap.size, G, C, rfl, Nat.le_refl _, by show (w.heap.push _)[w.heap.size]? = _; simp, Nat.zero_le _, hG, hC, by simp⟩⟩
theorem grow_61 (n : Nat) (w : World) (hn : n ≤ 1000) : Calls Try.prog 61 #[.slice none 0 0, .int .i64 n] w fun e w' => ∃ v, e = .returned v ∧ Own kb 30 6 w.heap.size w' v [] ∧ Below w.heap.size w w' := by
  rcases Nat.eq_zero_or_pos n with rfl | h0
  · refine (Any8.slices_Grow_room Try.growP none 0 0 0 w (Nat.le_refl _) (by omega) (by omega) (Nat.le_refl _)).mono ?_
    rintro e w' ⟨rfl, rfl⟩
    exact ⟨_, rfl, ⟨rfl, .inl ⟨rfl, rfl⟩⟩, Below.refl _ _⟩
  · obtain ⟨i0, hi, hz0, hz1, hz2⟩ := info_parts info30
    refine (Any8.slices_Grow_grow Try.growP i0 _ hi hz0 (by rw [hz1]; decide) none 0 0 n [] w (Nat.le_refl _) (by omega) (by rw [hz2]; omega) (by omega) (by simp) (fun _ => rfl) (fun a h => by cases h)).mono ?_
    rintro e w' ⟨rfl, rfl⟩
    have hG := grownCap_le_maxLen w (0 + n) 0 30 (by unfold maxLen; omega)
    have hg2 := grownCap_ge w (0 + n) 0 30
    refine ⟨_, rfl, own_empty w _ _ hG ?_, ((Below.refl _ w).drew).alloc (Nat.le_refl _) _⟩
    · show (#[] ++ Builtin.zeroCells #[Value.int .i64 0, Value.int .i64 0, Value.int .i64 0, Value.int .i64 0, Value.int .i64 0, Value.int .i64 0] (0 + n - 0) ++ Builtin.zeroCells #[Value.int .i64 0, Value.int .i64 0, Value.int .i64 0, Value.int .i64 0, Value.int .i64 0, Value.int .i64 0] (grownCap w (0 + n) 0 30 - (0 + n))).size = _
      rw [Array.size_append, Array.size_append, size_zeroCells, size_zeroCells]
      show 0 + (0 + n - 0) * 6 + (grownCap w (0 + n) 0 30 - (0 + n)) * 6 = grownCap w (0 + n) 0 30 * 6
      omega
/-- A slice as it came in. -/
structure Ps where
  q : Option Addr
  c : Nat
  l : List Bx
def Ps.v (r : Ps) : Value := .slice r.q r.l.length r.c
theorem take_flat {R : List Ps} {k : Nat} (h : k < R.length) : (R.take (k + 1)).flatMap (·.l) = (R.take k).flatMap (·.l) ++ R[k].l := by
  rw [List.take_succ_eq_append_getElem h, List.flatMap_append]; simp
theorem flat_bd {R : List Ps} (h : ∀ r ∈ R, r.l.length ≤ 60) (k : Nat) : ((R.take k).flatMap (·.l)).length ≤ 60 * k := by
  induction k with
  | zero => simp
  | succ k ih =>
    by_cases hk : k < R.length
    · rw [take_flat hk, List.length_append]
      have := h R[k] (List.getElem_mem hk)
      omega
    · rw [List.take_of_length_le (by omega)] at ih ⊢
      omega
set_option maxHeartbeats 16000000 in
set_option maxRecDepth 100000 in
theorem concat_any (g0 cp : Nat) (R : List Ps) (w : World) (hl : R.length ≤ 3) (h5 : ∀ r ∈ R, r.l.length ≤ 60) (hz : ∀ r ∈ R, r.q = none → r.c = 0)
    (hR : ∀ k (hk : k < R.length), w.cell? ⟨g0, k, none⟩ = some R[k].v ∧ Sl w R[k].q R[k].l) :
    Calls Try.prog 32 #[.slice (some ⟨g0, 0, none⟩) R.length cp] w fun e w' => ∃ v, e = .returned v ∧ Own kb 30 6 w.heap.size w' v (R.flatMap (·.l)) ∧ Below w.heap.size w w' := by
  obtain ⟨i0, hi, hz0, hz1, hz2⟩ := info_parts info30
  have HR := Lib.hid hR
  have HBD := Lib.hid (flat_bd h5)
  have H5 := Lib.hid h5
  have HZ := Lib.hid hz
  have HTK := Lib.hid (fun k (h : k < R.length) => take_flat h)
  clear hR h5 hz
  go_enter Try.func32, Try.ntmps32
  go_wp2
  go_loop [3, 11] (fun v3 v11 => ∃ k : Nat, v11 = .int .i64 k ∧ k ≤ R.length ∧ v3 = .int .i64 (((R.take k).flatMap (·.l)).length : Nat)) (fun _ v => R.length - (intOf v).toNat)
  case atStart => exact ⟨0, rfl, Nat.zero_le _, rfl⟩
  case round =>
    obtain ⟨k, rfl, hk, rfl⟩ := hrel
    by_cases hlt : k < R.length
    · have t1 : decide ((k : Int) < (R.length : Int)) = true := by simp; omega
      have V1 : IntKind.i64.wrap ((k : Int) + 1) = ((k + 1 : Nat) : Int) := by rw [IntWalk.i64_in _ (by omega)]; omega
      have u1 : (0 : Int) ≤ (k : Int) := by omega
      have u2 : (k : Int) < (R.length : Int) := by omega
      obtain ⟨c0, -⟩ := HR.out k hlt
      unfold Ps.v at c0
      have b1 := HBD.out k
      have b2 := H5.out _ (List.getElem_mem hlt)
      have HN := Lib.hid (show ((R.take (k + 1)).flatMap (·.l)).length = ((R.take k).flatMap (·.l)).length + R[k].l.length by rw [HTK.out k hlt, List.length_append])
      generalize R[k].l.length = n at *
      generalize ((R.take k).flatMap (·.l)).length = s at *
      have V2 : IntKind.i64.wrap ((s : Int) + (n : Int)) = ((s + n : Nat) : Int) := by rw [IntWalk.i64_in _ (by omega)]; omega
      have V3 : decide (((s + n : Nat) : Int) < 0) = false := by simp; omega
      go_wp2
      exact ⟨⟨k + 1, rfl, hlt, by rw [HN.out]; simp⟩, by simp [intOf]; omega⟩
    · have t1 : decide ((k : Int) < (R.length : Int)) = false := by simp; omega
      have b1 := HBD.out k
      have h63 := grow_61 ((R.take k).flatMap (·.l)).length w (by omega)
      clear b1
      generalize ((R.take k).flatMap (·.l)).length = s at *
      go_wp2_with (go_at_call 61; (with_reducible refine h63.mono ?_); rintro X w1 ⟨v6, rfl, hO1, hB1⟩)
      clear h63
      go_loopw [6, 27] (fun v6 v27 wr => ∃ (j : Nat) (F : Value), v27 = .int .i64 j ∧ j ≤ R.length ∧ F = v6 ∧ Own kb 30 6 w.heap.size wr F ((R.take j).flatMap (·.l)) ∧ Below w.heap.size w wr) (fun _ v _ => R.length - (intOf v).toNat)
      case atStart => exact ⟨0, v6, rfl, Nat.zero_le _, rfl, hO1, hB1⟩
      case round =>
        obtain ⟨j, F, rfl, hj, rfl, hO, hB⟩ := hrel
        clear hO1 hB1 t1
        by_cases hlj : j < R.length
        · have t1 : decide ((j : Int) < (R.length : Int)) = true := by simp; omega
          have V1 : IntKind.i64.wrap ((j : Int) + 1) = ((j + 1 : Nat) : Int) := by rw [IntWalk.i64_in _ (by omega)]; omega
          have u1 : (0 : Int) ≤ (j : Int) := by omega
          have u2 : (j : Int) < (R.length : Int) := by omega
          obtain ⟨c0, ho⟩ := HR.out j hlj
          have c1 := cell_later hB c0
          have ho1 := ho.on hB
          have b1 := HBD.out j
          have b2 := H5.out _ (List.getElem_mem hlj)
          have b3 := HZ.out _ (List.getElem_mem hlj)
          have HN := Lib.hid (HTK.out j hlj)
          clear c0 ho
          obtain ⟨r, hr⟩ : ∃ r, r = R[j] := ⟨_, rfl⟩
          rw [← hr] at c1 ho1 b2 b3 HN
          clear hr
          obtain ⟨rq, rc, rx⟩ := r
          unfold Ps.v at c1
          dsimp only at c1 ho1 b2 b3 HN
          generalize (R.take j).flatMap (·.l) = A at *
          have hwr := hB.size
          cases rq with
          | none =>
            have hx := ho1.1 rfl
            subst hx
            clear ho1 b1 b2
            have HA := Lib.hid (And.intro hO hB)
            have hO' : Own kb 30 6 w.heap.size wr F A := hO
            clear hO hB
            have b3 := b3 rfl
            subst b3
            simp only [List.length_nil] at c1
            go_wp2_with (at_builtin; refine wpList_append_own_none rfl _ _ 22 rfl w.heap.size 30 i0 6 Try.underlying22 hi _ A.length (A.flatMap kb) rfl hO' rfl ?_)
            clear hO'
            go_wp2
            exact ⟨⟨j + 1, F, rfl, hlj, rfl, by rw [HN.out, List.append_nil]; exact HA.out.1, HA.out.2⟩, by simp [intOf]; omega⟩
          | some a =>
            have HNw := Lib.hid (sl_news ho1)
            have HL : Hid ((rx.flatMap kb).length = rx.length * 6) := Lib.hid (flat_len kb 6 kl rx)
            have H1 : ∀ u ∈ rx.flatMap kb, u.oneCell' = true := by
              intro u hu
              obtain ⟨x, -, hx⟩ := List.mem_flatMap.1 hu
              unfold kb at hx
              simp only [List.mem_cons, List.not_mem_nil, or_false] at hx
              rcases hx with rfl | rfl | rfl | rfl | rfl | rfl <;> rfl
            have HA := Lib.hid (And.intro hO hB)
            have hO' : Own kb 30 6 w.heap.size wr F A := hO
            clear hO hB ho1
            go_wp2_with (at_builtin; refine wpList_append_own_at _ rfl _ _ 22 rfl w.heap.size 30 i0 _ 6 48 Try.underlying22 hi hz0 hz1 hz2 rfl (by decide) _ A.length (A.flatMap kb) rfl hO' a rx.length rc (rx.flatMap kb) rfl HL.out HNw.out H1 (by unfold maxLen; omega) (by omega) hwr ?_)
            intro v' w6 r1 r2 r3 r4
            have B6 : Below w.heap.size w w6 := HA.out.2.grown r2 HA.out.2.size (fun q hq => (World.ownsRow.lt HA.out.1 q hq).1)
            have O6 : Own kb 30 6 w.heap.size w6 v' (A ++ rx) := by
              unfold Own
              rw [List.length_append, List.flatMap_append]
              exact r1
            have HB := Lib.hid (And.intro O6 B6)
            clear r1 r2 r3 r4 hO' O6 B6
            go_wp2
            exact ⟨⟨j + 1, v', rfl, hlj, rfl, by rw [HN.out]; exact HB.out.1, HB.out.2⟩, by simp [intOf]; omega⟩
        · have t1 : decide ((j : Int) < (R.length : Int)) = false := by simp; omega
          have e : R.take j = R := List.take_of_length_le (by omega)
          rw [e] at hO
          have HA := Lib.hid (And.intro hO hB)
          clear hO hB e
          go_wp2
          go_ret
          exact ⟨_, rfl, HA.out.1, HA.out.2⟩
end Go.Proofs.Ytkgaahmehmbfjaa
