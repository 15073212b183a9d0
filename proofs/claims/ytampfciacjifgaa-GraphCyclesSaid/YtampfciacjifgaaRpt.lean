/- A list beside lists of lists; the reference's Parts. -/
import Derived.Test.YtampfciacjifgaaRfo
namespace Go.Proofs.Ytampfciacjifgaa
open Go.ChangeShapes Go.WideShapes Go.ChangeAt Go.RowKit
set_option linter.unusedVariables false
set_option linter.unusedSimpArgs false

/-- Lists of lists, and one list more that lies in no block of theirs. -/
structure Bes (B : Nat) (w : World) (v : Value) (ls : List (List Nat)) (u : Value) (xs : List Nat) (vs : List Value) : Prop where
  o : w.ownsRow B 29 1 v ls.length vs
  i : Inn B w v.ownBlock vs ls
  m : Own B w u xs
  d : ∀ (i : Nat) (y : Value) (b : Nat), vs[i]? = some y → y.ownBlock = some b → u.ownBlock ≠ some b
  r : ∀ b, u.ownBlock = some b → v.ownBlock ≠ some b
def Nst (B : Nat) (w : World) (v : Value) (ls : List (List Nat)) (u : Value) (xs : List Nat) : Prop := ∃ vs, Bes B w v ls u xs vs
theorem Nst.start {B : Nat} {w : World} {v : Value} {ls : List (List Nat)} (h : Nest B w v ls) : Nst B w v ls (.slice none 0 0) [] := by
  obtain ⟨vs, o, I⟩ := h
  exact ⟨vs, o, I, World.ownsRow_nil _ _ _ _, (fun _ _ _ _ _ e => by cases e), (fun _ e => by cases e)⟩
theorem Bes.on {B : Nat} {w w1 : World} {v : Value} {ls : List (List Nat)} {u : Value} {xs : List Nat} {vs : List Value} (h : Bes B w v ls u xs vs) (hb : Below w.heap.size w w1) : Bes B w1 v ls u xs vs :=
  ⟨own_on h.o hb, h.i.on hb, own_on h.m hb, h.d, h.r⟩
theorem Nst.on {B : Nat} {w w1 : World} {v : Value} {ls : List (List Nat)} {u : Value} {xs : List Nat} (h : Nst B w v ls u xs) (hb : Below w.heap.size w w1) : Nst B w1 v ls u xs := by
  obtain ⟨vs, h⟩ := h; exact ⟨vs, h.on hb⟩
theorem Nst.own {B : Nat} {w : World} {v : Value} {ls : List (List Nat)} {u : Value} {xs : List Nat} (h : Nst B w v ls u xs) : Own B w u xs := by
  obtain ⟨vs, h⟩ := h; exact h.m
/-- The list grows. -/
theorem Nst.add {B : Nat} {w w1 : World} {v : Value} {ls : List (List Nat)} {u u' : Value} {xs ys : List Nat} (h : Nst B w v ls u xs) (o1 : Own B w1 u' ys) (hg : w.grownBy w1 u.ownBlock) (hv : u'.ownBlock = u.ownBlock ∨ u'.ownBlock = some w.heap.size) : Nst B w1 v ls u' ys := by
  obtain ⟨vs, h⟩ := h
  have kept : ∀ (y : Value) (zs : List Nat), Own B w y zs → (∀ b, y.ownBlock = some b → u.ownBlock ≠ some b) → Own B w1 y zs := fun y zs hy k => by
    refine World.ownsRow.kept hy hg ?_
    cases e : y.ownBlock with
    | none => exact .inl rfl
    | some b => exact .inr (Ne.symm (k b e))
  refine ⟨vs, ?_, ⟨h.i.len, fun i y zs a b => kept y zs (h.i.own i y zs a b) (fun c e => h.d i y c a e), h.i.dis, h.i.out⟩, o1, fun i y b a e => ?_, fun b e => ?_⟩
  · refine World.ownsRow.kept h.o hg ?_
    cases e : v.ownBlock with
    | none => exact .inl rfl
    | some b => exact .inr fun k => h.r b k.symm e
  · rcases hv with k | k
    · rw [k]; exact h.d i y b a e
    · rw [k]
      obtain ⟨zs, -, ho⟩ := h.i.get a
      have := (World.ownsRow.lt ho _ e).2
      simp; omega
  · rcases hv with k | k
    · rw [k] at e; exact h.r b e
    · rw [k] at e
      simp only [Option.some.injEq] at e
      intro e2
      have := (h.o.lt _ e2).2
      omega
/-- The list is put to the others. -/
theorem Bes.push {B : Nat} {w w1 : World} {v v' : Value} {ls : List (List Nat)} {u : Value} {xs : List Nat} {vs : List Value} (h : Bes B w v ls u xs vs) (o1 : w1.ownsRow B 29 1 v' (ls.length + 1) (vs ++ [u])) (hg : w.grownBy w1 v.ownBlock) (hv : v'.ownBlock = v.ownBlock ∨ v'.ownBlock = some w.heap.size) : Nest B w1 v' (ls ++ [xs]) :=
  Nest.push h.o h.i h.m h.d h.r o1 hg hv
theorem oneCell_own {B : Nat} {w : World} {u : Value} {xs : List Nat} (h : Own B w u xs) : u.oneCell' = true := by
  rcases h.2 with ⟨rfl, -⟩ | ⟨g, c, cur, rfl, -⟩ <;> rfl

/-- The parts that begin before i. -/
def gl (R : Nat → Nat) (n i : Nat) : List (List Nat) := (roots R i).map fun r => (List.range n).filter fun j => R j == r
theorem gl_len (R : Nat → Nat) (n i : Nat) : (gl R n i).length ≤ i := by unfold gl; rw [List.length_map]; exact roots_le R i
theorem gl_no {R : Nat → Nat} {n i : Nat} (h : R i ≠ i) : gl R n (i + 1) = gl R n i := by unfold gl; rw [roots_next, if_neg h, List.append_nil]
theorem gl_yes {R : Nat → Nat} {n i : Nat} (h : R i = i) : gl R n (i + 1) = gl R n i ++ [(List.range n).filter fun j => R j == i] := by unfold gl; rw [roots_next, if_pos h, List.map_append]; rfl
def pt (R : Nat → Nat) (i k : Nat) : List Nat := (List.range k).filter fun j => R j == i
theorem pt_start {R : Nat → Nat} (le : ∀ j, R j ≤ j) (i : Nat) : pt R i i = [] := List.filter_eq_nil_iff.2 fun j hj => by
  have := le j
  have := List.mem_range.1 hj
  simp; omega
theorem pt_next (R : Nat → Nat) (i k : Nat) : pt R i (k + 1) = pt R i k ++ if R k = i then [k] else [] := by
  unfold pt; rw [range_next]; simp
theorem pt_len (R : Nat → Nat) (i k : Nat) : (pt R i k).length ≤ k := Nat.le_trans (List.length_filter_le _ _) (by simp)

set_option maxRecDepth 100000 in
set_option maxHeartbeats 4000000 in
theorem rparts_any (p : Option Addr) (n : Nat) (l : List (Nat × Nat)) (cap : Nat) (w : World) (hG : Gr w p n l) :
    Calls Try.prog 16 #[.int .i64 n, .slice p l.length cap] w fun e w' => ∃ v, e = .returned v ∧ Nest w.heap.size w' v (partsL (pre l l.length) n) ∧ Below w.heap.size w w' := by
  have hm := hG.2.1
  have hn := hG.2.2.1
  have le := (pre_lab l l.length (Nat.le_refl _)).l
  have hLb := fun W h => labels_pre p n l.length l cap W h (Nat.le_refl _)
  generalize pre l l.length = R at *
  obtain ⟨i0, hi, hz0, hz1, hz2⟩ := info_parts info3
  obtain ⟨j0, hj, hy0, hy1, hy2⟩ := info_parts info29
  go_enter Try.func16, Try.ntmps16
  go_wp2_with (go_at_call 44; (with_reducible refine (hLb _ hG).mono ?_); rintro e w1 ⟨v, rfl, hO, hb⟩)
  obtain ⟨q, c, rfl, hq⟩ := own_form hO
  rw [List.length_map, List.length_range] at *
  have HQ := Lib.hid hq
  have HO := Lib.hid hO
  clear hq hO hLb
  go_loopw [6, 7] (fun v6 v wr => ∃ k : Nat, v = .int .i64 k ∧ k ≤ n ∧ Hid (Nest w1.heap.size wr v6 (gl R n k)) ∧ Below w1.heap.size w1 wr) (fun _ v _ => n - (intOf v).toNat)
  case atStart => exact ⟨0, rfl, Nat.zero_le _, Lib.hid (Nest.nil _ _), Below.refl _ _⟩
  case round =>
    obtain ⟨k, rfl, hk, hN, hB⟩ := hrel
    by_cases hlt : k < n
    · have g : decide ((k : Int) < (n : Int)) = true := by simp [hlt]
      have W1 : IntKind.i64.wrap ((k : Int) + 1) = ((k + 1 : Nat) : Int) := by rw [IntWalk.i64_in _ (by omega)]; omega
      have hq : ∃ G, q = some ⟨G, 0, none⟩ := by
        rcases HQ.out with ⟨-, e⟩ | ⟨G, e, h, -⟩
        · have := congrArg List.length e; simp at this; omega
        · exact ⟨G, e⟩
      obtain ⟨G, rfl⟩ := hq
      have cL : ∀ wz, Below w1.heap.size w1 wz → ∀ j, j < n → wz.cell? ⟨G, j, none⟩ = some (.int .i64 (R j : Nat)) := fun wz hz j hj => by
        have h1 := own_on HO.out hz
        have := Own.cell (n := ((List.range n).map R).length) (c := c) (g := G) (by rw [List.length_map, List.length_range]; exact h1) rfl (j := j) (by simpa using hj)
        rw [this]; simp
      have ck := cL wr hB k hlt
      by_cases hr : R k = k
      · have t1 : (((R k : Nat) : Int) == (k : Int)) = true := by simp [hr]
        have t2 : (((R k : Nat) : Int) != (k : Int)) = false := by simp [hr]
        have HR := Lib.hid hr
        have HK := Lib.hid hlt
        clear hr
        go_wp2
        go_loopw [8, 9] (fun v8 v9 wr => ∃ j : Nat, v9 = .int .i64 j ∧ j ≤ n ∧ Hid (Nst w1.heap.size wr u6 (gl R n k) v8 (pt R k j)) ∧ Below w1.heap.size w1 wr) (fun _ v _ => n - (intOf v).toNat)
        case atStart => exact ⟨k, rfl, hk, Lib.hid (by rw [pt_start le]; exact Nst.start hN.out), hB⟩
        case round =>
          clear hN hB ck t1 t2 g W1
          obtain ⟨j, rfl, hj2, hN, hB⟩ := hrel
          by_cases hlt2 : j < n
          · have g : decide ((j : Int) < (n : Int)) = true := by simp [hlt2]
            have W1 : IntKind.i64.wrap ((j : Int) + 1) = ((j + 1 : Nat) : Int) := by rw [IntWalk.i64_in _ (by omega)]; omega
            have ck := cL wr hB j hlt2
            have hpl := pt_len R k j
            have e1 := pt_next R k j
            by_cases hr : R j = k
            · have t1 : (((R j : Nat) : Int) == (k : Int)) = true := by simp [hr]
              rw [if_pos hr] at e1
              have E1 := Lib.hid e1
              have HR2 := Lib.hid hr
              clear e1 hr
              obtain ⟨q, c2, rfl, hq2⟩ := own_form hN.out.own
              have HQ2 := Lib.hid hq2
              clear hq2
              go_wp2_with (at_builtin; refine wpList_append_own_at _ rfl _ _ 29 rfl w1.heap.size 3 i0 _ 1 8 Try.underlying29 hi hz0 hz1 hz2 rfl (by decide) _ (pt R k j).length (ints (pt R k j)) rfl (own_on hN.out.own (al1 _ _)) ⟨_, 0, none⟩ 1 1 [.int .i64 (j : Int)] rfl rfl (cell_one_new _ _ _) (by simp [Value.oneCell']) (by unfold maxLen; omega) (by omega) (Nat.le_trans hB.size (al1 _ _).size) ?_)
              intro v' w2 o1 o2 o3 o4
              have O2 : Own w1.heap.size w2 v' (pt R k (j + 1)) := by
                rw [E1.out]
                unfold Own
                rw [ints_app, List.length_append]
                exact o1
              have B2 : Below w1.heap.size w1 w2 := (hB.alloc hB.size _).grown o2 (Nat.le_trans hB.size (al1 _ _).size) (fun i hi => (World.ownsRow.lt hN.out.own _ hi).1)
              have N2 := Lib.hid ((hN.out.on (al1 _ _)).add O2 o2 (by simpa using o4))
              clear o1 o2 o3 o4 O2
              go_wp2
              exact ⟨⟨j + 1, rfl, hlt2, N2, B2⟩, by simp [intOf]; omega⟩
            · have t1 : (((R j : Nat) : Int) == (k : Int)) = false := by simp; omega
              rw [if_neg hr, List.append_nil] at e1
              have N2 : Hid (Nst w1.heap.size wr u6 (gl R n k) u8 (pt R k (j + 1))) := Lib.hid (by rw [e1]; exact hN.out)
              clear e1 hr hN
              go_wp2
              exact ⟨⟨j + 1, rfl, hlt2, N2, hB⟩, by simp [intOf]; omega⟩
          · have g : decide ((j : Int) < (n : Int)) = false := by simp; omega
            have e : j = n := by omega
            subst e
            have W1 : IntKind.i64.wrap ((k : Int) + 1) = ((k + 1 : Nat) : Int) := by rw [IntWalk.i64_in _ (by omega)]; omega
            obtain ⟨vs, hb5⟩ := hN.out
            have hgl := gl_len R j k
            have hone := oneCell_own hb5.m
            obtain ⟨q8, c8, rfl, hq8⟩ := own_form hb5.m
            have HQ8 := Lib.hid hq8
            clear hq8
            have HB5 := Lib.hid hb5
            clear hb5 hN
            go_wp2_with (at_builtin; refine wpList_append_own_at _ rfl _ _ 25 rfl w1.heap.size 29 j0 _ 1 24 Try.underlying25 hj hy0 hy1 hy2 rfl (by decide) _ (gl R j k).length vs rfl ((HB5.out.on (al1 _ _)).o) ⟨_, 0, none⟩ 1 1 [.slice q8 (pt R k j).length c8] rfl rfl (cell_one_new _ _ _) (by intro u hu; rw [List.mem_singleton.1 hu]; exact hone) (by unfold maxLen; omega) (by omega) (Nat.le_trans hB.size (al1 _ _).size) ?_)
            intro v' w2 o1 o2 o3 o4
            have B2 : Below w1.heap.size w1 w2 := (hB.alloc hB.size _).grown o2 (Nat.le_trans hB.size (al1 _ _).size) (fun i hi => (HB5.out.o.lt _ hi).1)
            have N2 : Hid (Nest w1.heap.size w2 v' (gl R j (k + 1))) := Lib.hid (by rw [gl_yes HR.out]; exact (HB5.out.on (al1 _ _)).push o1 o2 (by simpa using o4))
            clear o1 o2 o3 o4
            go_wp2
            exact ⟨⟨k + 1, rfl, HK.out, N2, B2⟩, by simp [intOf]; omega⟩
      · have t1 : (((R k : Nat) : Int) == (k : Int)) = false := by simp; omega
        have t2 : (((R k : Nat) : Int) != (k : Int)) = true := by simp; omega
        have HN2 : Hid (Nest w1.heap.size wr u6 (gl R n (k + 1))) := Lib.hid (by rw [gl_no hr]; exact hN.out)
        clear hr hN
        go_wp2
        exact ⟨⟨k + 1, rfl, hlt, HN2, hB⟩, by simp [intOf]; omega⟩
    · have g : decide ((k : Int) < (n : Int)) = false := by simp; omega
      have e : k = n := by omega
      subst e
      go_wp2
      go_ret
      exact ⟨_, rfl, hN.out.mono hb.size, belows hb hB⟩
end Go.Proofs.Ytampfciacjifgaa
