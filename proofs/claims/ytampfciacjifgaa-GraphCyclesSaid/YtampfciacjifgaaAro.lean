/- The edges around each node. -/
import Derived.Test.YtampfciacjifgaaSam
namespace Go.Proofs.Ytampfciacjifgaa
open Go.ChangeShapes Go.WideShapes Go.ChangeAt Go.RowKit
set_option linter.unusedVariables false
set_option linter.unusedSimpArgs false

def inc (l : List (Nat × Nat)) (v i : Nat) : Bool := match l[i]? with
  | some x => x.1 == v || x.2 == v
  | none => false
def adj (l : List (Nat × Nat)) (xs : List Nat) (v : Nat) : List Nat := xs.filter (inc l v)
/-- One edge more at one of its ends; at both. -/
def ad1 (F : Nat → List Nat) (a i : Nat) : Nat → List Nat := upd F a (F a ++ [i])
theorem adj_next {l : List (Nat × Nat)} {xs : List Nat} {k : Nat} (hk : k < xs.length) (hi : xs[k] < l.length) (ne : l[xs[k]].1 ≠ l[xs[k]].2) (v : Nat) :
    ad1 (ad1 (adj l (xs.take k)) l[xs[k]].1 xs[k]) l[xs[k]].2 xs[k] v = adj l (xs.take (k + 1)) v := by
  have e : adj l (xs.take (k + 1)) v = adj l (xs.take k) v ++ if inc l v xs[k] then [xs[k]] else [] := by
    unfold adj
    rw [List.take_succ_eq_append_getElem hk, List.filter_append]
    simp [List.filter]
    split <;> simp_all
  have hinc : inc l v xs[k] = (l[xs[k]].1 == v || l[xs[k]].2 == v) := by
    unfold inc; rw [List.getElem?_eq_getElem hi]
  rw [e, hinc]
  unfold ad1 upd
  by_cases h1 : v = l[xs[k]].1
  · have h2 : ¬ v = l[xs[k]].2 := fun h => ne (h1 ▸ h)
    simp [← h1, h2]
  · by_cases h2 : v = l[xs[k]].2
    · have h3 : ¬ l[xs[k]].2 = l[xs[k]].1 := fun h => h1 (h2.trans h)
      simp [← h2, h1, Ne.symm h1]
    · simp [h1, h2, Ne.symm h1, Ne.symm h2]
theorem set_map (n : Nat) (F : Nat → List Nat) (a : Nat) (x : List Nat) : ((List.range n).map F).set a x = (List.range n).map (upd F a x) := by
  apply List.ext_getElem
  · simp
  · intro j h1 h2
    simp only [List.getElem_set, List.getElem_map, List.getElem_range, upd]
    by_cases h : a = j
    · simp [h]
    · simp [h, Ne.symm h]
theorem nest_made {w : World} {B g n : Nat} (h : w.ownsRow B 29 1 (.slice (some ⟨g, 0, none⟩) n n) n (madeCells #[Value.slice none 0 0] n).toList) : Nest B w (.slice (some ⟨g, 0, none⟩) n n) ((List.range n).map fun _ => []) := by
  rw [toList_madeCells_one] at h
  have at_ : ∀ (i : Nat) (u : Value), (List.replicate n (Value.slice none 0 0))[i]? = some u → u = .slice none 0 0 := fun i u h => by
    have := List.mem_of_getElem? h
    exact (List.mem_replicate.1 this).2
  refine ⟨List.replicate n (.slice none 0 0), by simpa using h, by simp, fun i u xs h1 h2 => ?_, fun i j u u' b _ h1 _ e => ?_, fun i u b h1 e => ?_⟩
  · rw [at_ i u h1]
    have : xs = [] := by
      have := List.mem_of_getElem? h2
      simp at this; exact this.2
    subst this
    exact World.ownsRow_nil _ _ _ _
  · rw [at_ i u h1] at e; cases e
  · rw [at_ i u h1] at e; cases e

theorem Nest.factsF {B : Nat} {w : World} {G n c : Nat} {F : Nat → List Nat} {a : Nat} (h : Nest B w (.slice (some ⟨G, 0, none⟩) n c) ((List.range n).map F)) (ha : a < n) :
    ∃ vs u, w.ownsRow B 29 1 (.slice (some ⟨G, 0, none⟩) n c) n vs ∧ Inn B w (some G) vs ((List.range n).map F) ∧ vs[a]? = some u ∧ Own B w u (F a) ∧ w.cell? ⟨G, a, none⟩ = some u ∧ w.frozen? ⟨G, a, none⟩ = false ∧ (some G ≠ u.ownBlock) ∧ G < w.heap.size ∧ B ≤ G := by
  have hx : ((List.range n).map F)[a]? = some (F a) := by simp [ha]
  obtain ⟨G', cap, vs, u, e, hB, hG, o, I, hu, ho, hc, hf, hne⟩ := h.facts hx
  have hl : ((List.range n).map F).length = n := by simp
  rw [hl] at e o
  simp only [Value.slice.injEq, Option.some.injEq, Addr.mk.injEq, and_true, true_and] at e
  obtain ⟨rfl, rfl⟩ := e
  exact ⟨vs, u, o, I, hu, ho, hc, hf, fun e => hne _ e.symm rfl, hG, hB⟩
theorem Nest.growF {B : Nat} {w w1 : World} {G n c : Nat} {F : Nat → List Nat} {a i : Nat} {vs : List Value} {u u' : Value} (ha : a < n) (o : w.ownsRow B 29 1 (.slice (some ⟨G, 0, none⟩) n c) n vs) (I : Inn B w (some G) vs ((List.range n).map F)) (hu : vs[a]? = some u)
    (o1 : w1.ownsRow B 3 1 u' ((F a).length + 1) (ints (F a) ++ [.int .i64 (i : Int)])) (hg : w.grownBy w1 u.ownBlock) (hv : u'.ownBlock = u.ownBlock ∨ u'.ownBlock = some w.heap.size) :
    Nest B (w1.setCell ⟨G, a, none⟩ u') (.slice (some ⟨G, 0, none⟩) n c) ((List.range n).map (ad1 F a i)) := by
  have hx : ((List.range n).map F)[a]? = some (F a) := by simp [ha]
  have := Nest.grow o I (by simp) hu hx o1 hg hv
  rw [set_map] at this
  exact this
theorem ix0 (a b : Int) (w : World) : Sem.run Try.prog (Instr.index 46 (.agg #[.int .i64 a, .int .i64 b]) (.int .i64 0)) w = .ok (.int .i64 a) w := by
  simp [Instr.index, run_underlying Try.underlying46, asIntOf, go_sem]
theorem ix1 (a b : Int) (w : World) : Sem.run Try.prog (Instr.index 46 (.agg #[.int .i64 a, .int .i64 b]) (.int .i64 1)) w = .ok (.int .i64 b) w := by
  simp [Instr.index, run_underlying Try.underlying46, asIntOf, go_sem]
/-- Where the inner loop has come to. -/
def mid (F : Nat → List Nat) (x y i : Nat) : Nat → Nat → List Nat
  | 0 => F
  | 1 => ad1 F x i
  | _ => ad1 (ad1 F x i) y i
theorem adj_len (l : List (Nat × Nat)) (xs : List Nat) (v : Nat) : (adj l xs v).length ≤ xs.length := List.length_filter_le _ _
theorem ad1_len {F : Nat → List Nat} {m : Nat} (h : ∀ v, (F v).length ≤ m) (a i v : Nat) : (ad1 F a i v).length ≤ m + 1 := by
  unfold ad1 upd
  split
  · have := h a; simp; omega
  · have := h v; omega

set_option maxRecDepth 100000 in
set_option maxHeartbeats 4000000 in
theorem around_any (p : Option Addr) (n : Nat) (l : List (Nat × Nat)) (cap : Nat) (vl : Value) (xs : List Nat) (w : World) (hG : Gr w p n l) (hl : Rdl w vl xs) (hx : ∀ i ∈ xs, i < l.length) (hxl : xs.length ≤ 4000) :
    Calls Try.prog 52 #[.int .i64 n, .slice p l.length cap, vl] w fun e w' => ∃ v, e = .returned v ∧ v = .slice (some ⟨w.heap.size, 0, none⟩) n n ∧ Nest w.heap.size w' v ((List.range n).map (adj l xs)) ∧ Below w.heap.size w w' := by
  have hm := hG.2.1
  have hn := hG.2.2.1
  obtain ⟨q, c, rfl, k1⟩ := hl
  have K1 := Lib.hid k1
  clear k1
  obtain ⟨i0, hi, hz0, hz1, hz2⟩ := info_parts info3
  obtain ⟨j0, hj, hy0, hy1, hy2⟩ := info_parts info29
  go_enter Try.func52, Try.ntmps52
  go_wp2_with (at_make; refine wpList_make_full _ rfl _ _ 25 rfl w.heap.size 29 j0 _ 1 Try.underlying25 hj hy0 hy1 _ _ _ _ n rfl rfl rfl rfl (by rw [hy2]; omega) (by unfold maxLen; omega) (Nat.le_refl _) ?_)
  intro w1 hown hgrow
  have hN := nest_made hown
  have hB := below_grown (Below.refl _ w) hgrow (Nat.le_refl _)
  clear hown hgrow
  go_wp2
  go_loopw [16] (fun v wr => ∃ k : Nat, v = .int .i64 k ∧ k ≤ xs.length ∧ Hid (Nest w.heap.size wr (.slice (some ⟨w.heap.size, 0, none⟩) n n) ((List.range n).map (adj l (xs.take k)))) ∧ Below w.heap.size w wr) (fun v _ => xs.length - (intOf v).toNat)
  case atStart => exact ⟨0, rfl, Nat.zero_le _, Lib.hid hN, hB⟩
  case round =>
    clear hN hB
    obtain ⟨k, rfl, hk, hN, hB⟩ := hrel
    by_cases hlt : k < xs.length
    · have g1 : decide ((k : Int) < (xs.length : Int)) = true := by simp [hlt]
      obtain ⟨g, rfl, c1⟩ := K1.out k hlt
      have c1 := cell_later hB c1
      have hil := hx _ (List.getElem_mem hlt)
      obtain ⟨a, rfl, d0, d1, l1, l2, ne⟩ := (hG.on hB).at hil
      have HA := Lib.hid (adj_next hlt hil ne)
      have hFl : ∀ v, (adj l (xs.take k) v).length ≤ 4000 := fun v => Nat.le_trans (adj_len _ _ _) (by rw [List.length_take]; omega)
      obtain ⟨i, hxi⟩ : ∃ i, i = xs[k] := ⟨_, rfl⟩
      obtain ⟨x, hxx⟩ : ∃ x, x = l[xs[k]].1 := ⟨_, rfl⟩
      obtain ⟨y, hyy⟩ : ∃ y, y = l[xs[k]].2 := ⟨_, rfl⟩
      rw [← hxx] at d0 l1 HA
      rw [← hyy] at d1 l2 HA
      rw [← hxi] at c1 d0 d1 HA
      have hil : i < l.length := by rw [hxi]; exact hil
      clear hxi hxx hyy ne
      generalize adj l (xs.take k) = F at *
      have W1 : IntKind.i64.wrap ((k : Int) + 1) = ((k + 1 : Nat) : Int) := by rw [IntWalk.i64_in _ (by omega)]; omega
      have HLT := Lib.hid hlt
      have q1 : (0 : Int) ≤ (i : Int) := by omega
      have q2 : (i : Int) < (l.length : Int) := by omega
      go_wp2
      go_loopw [24] (fun v wr => ∃ t : Nat, v = .int .i64 t ∧ t ≤ 2 ∧ Hid (Nest w.heap.size wr (.slice (some ⟨w.heap.size, 0, none⟩) n n) ((List.range n).map (mid F x y i t))) ∧ Below w.heap.size w wr) (fun v _ => 2 - (intOf v).toNat)
      case atStart => exact ⟨0, rfl, by omega, hN, hB⟩
      case round =>
        clear hN hB c1 d0 d1
        obtain ⟨t, rfl, ht, hN, hB⟩ := hrel
        rcases (by omega : t = 0 ∨ t = 1 ∨ t = 2) with rfl | rfl | rfl
        · obtain ⟨vs, u, o, I, hu, ho, hc, hf, hne, hGs, hBG⟩ := (show Nest w.heap.size wr (.slice (some ⟨w.heap.size, 0, none⟩) n n) ((List.range n).map (F)) from hN.out).factsF l1
          have fl : (F x).length ≤ 4000 := hFl x
          have q3 : (0 : Int) ≤ (x : Int) := by omega
          have q4 : (x : Int) < (n : Int) := by omega
          have X0 := ix0 (x : Int) (y : Int)
          have HO := Lib.hid ho
          have HI := Lib.hid I
          have Ho := Lib.hid o
          have Hu := Lib.hid hu
          clear ho I o hu
          go_wp2_with (at_builtin; refine wpList_append_own_at _ rfl _ _ 29 rfl w.heap.size 3 i0 _ 1 8 Try.underlying29 hi hz0 hz1 hz2 rfl (by decide) _ (F x).length (ints (F x)) rfl (own_on HO.out (al1 _ _)) ⟨_, 0, none⟩ 1 1 [.int .i64 (i : Int)] rfl rfl (cell_one_new _ _ _) (by simp [Value.oneCell']) (by unfold maxLen; omega) (by omega) (Nat.le_trans hB.size (al1 _ _).size) ?_)
          intro v' w2 o1 o2 o3 o4
          obtain ⟨gg, cc, rfl, -, -⟩ := World.ownsRow.form o1 (Nat.succ_pos _)
          have ob := al1 wr (.cells #[.int .i64 (i : Int)] 3)
          have CC : w2.cell? ⟨w.heap.size, x, none⟩ = some u := (o2.cell_far ⟨w.heap.size, x, none⟩ (by simp; omega) hne).trans ((ob.cell hGs).trans hc)
          have FF : w2.frozen? ⟨w.heap.size, x, none⟩ = false := (o2.frozen_far ⟨w.heap.size, x, none⟩ (by simp; omega) hne).trans ((ob.frozen hGs).trans hf)
          have N2 := Lib.hid (Nest.growF l1 (own_on Ho.out ob) (HI.out.on ob) Hu.out o1 o2 (by simpa using o4))
          have B2 : ∀ uz, Below w.heap.size w (w2.setCell ⟨w.heap.size, x, none⟩ uz) := fun uz => ((hB.alloc hB.size _).grown o2 (Nat.le_trans hB.size ob.size) (fun j hj => (World.ownsRow.lt HO.out _ hj).1)).setCell (Nat.le_refl _) _
          clear o1 o2 o3 o4
          go_wp2
          exact ⟨⟨0+1, rfl, by omega, N2, B2 _⟩, by simp [intOf]⟩
        · obtain ⟨vs, u, o, I, hu, ho, hc, hf, hne, hGs, hBG⟩ := (show Nest w.heap.size wr (.slice (some ⟨w.heap.size, 0, none⟩) n n) ((List.range n).map (ad1 F x i)) from hN.out).factsF l2
          have fl : (ad1 F x i y).length ≤ 4001 := ad1_len hFl x i y
          have q3 : (0 : Int) ≤ (y : Int) := by omega
          have q4 : (y : Int) < (n : Int) := by omega
          have X0 := ix1 (x : Int) (y : Int)
          have HO := Lib.hid ho
          have HI := Lib.hid I
          have Ho := Lib.hid o
          have Hu := Lib.hid hu
          clear ho I o hu
          go_wp2_with (at_builtin; refine wpList_append_own_at _ rfl _ _ 29 rfl w.heap.size 3 i0 _ 1 8 Try.underlying29 hi hz0 hz1 hz2 rfl (by decide) _ (ad1 F x i y).length (ints (ad1 F x i y)) rfl (own_on HO.out (al1 _ _)) ⟨_, 0, none⟩ 1 1 [.int .i64 (i : Int)] rfl rfl (cell_one_new _ _ _) (by simp [Value.oneCell']) (by unfold maxLen; omega) (by omega) (Nat.le_trans hB.size (al1 _ _).size) ?_)
          intro v' w2 o1 o2 o3 o4
          obtain ⟨gg, cc, rfl, -, -⟩ := World.ownsRow.form o1 (Nat.succ_pos _)
          have ob := al1 wr (.cells #[.int .i64 (i : Int)] 3)
          have CC : w2.cell? ⟨w.heap.size, y, none⟩ = some u := (o2.cell_far ⟨w.heap.size, y, none⟩ (by simp; omega) hne).trans ((ob.cell hGs).trans hc)
          have FF : w2.frozen? ⟨w.heap.size, y, none⟩ = false := (o2.frozen_far ⟨w.heap.size, y, none⟩ (by simp; omega) hne).trans ((ob.frozen hGs).trans hf)
          have N2 := Lib.hid (Nest.growF l2 (own_on Ho.out ob) (HI.out.on ob) Hu.out o1 o2 (by simpa using o4))
          have B2 : ∀ uz, Below w.heap.size w (w2.setCell ⟨w.heap.size, y, none⟩ uz) := fun uz => ((hB.alloc hB.size _).grown o2 (Nat.le_trans hB.size ob.size) (fun j hj => (World.ownsRow.lt HO.out _ hj).1)).setCell (Nat.le_refl _) _
          clear o1 o2 o3 o4
          go_wp2
          exact ⟨⟨1+1, rfl, by omega, N2, B2 _⟩, by simp [intOf]⟩
        · have HM : Hid (Nest w.heap.size wr (.slice (some ⟨w.heap.size, 0, none⟩) n n) ((List.range n).map (adj l (xs.take (k + 1))))) := Lib.hid (by
            have := hN.out
            rw [show (List.range n).map (adj l (xs.take (k + 1))) = (List.range n).map (mid F x y i 2) from List.map_congr_left fun v _ => (HA.out v).symm]
            exact this)
          have hlt := HLT.out
          clear hN
          go_wp2
          exact ⟨⟨k + 1, rfl, hlt, HM, hB⟩, by simp [intOf]; omega⟩
    · have g1 : decide ((k : Int) < (xs.length : Int)) = false := by simp; omega
      have e : k = xs.length := by omega
      subst e
      go_wp2
      go_ret
      refine ⟨_, rfl, rfl, ?_, hB⟩
      have := hN.out
      rw [List.take_length] at this
      exact this
end Go.Proofs.Ytampfciacjifgaa
