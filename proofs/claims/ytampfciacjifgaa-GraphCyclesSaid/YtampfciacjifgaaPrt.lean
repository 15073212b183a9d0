/- The parts of a graph: parts, Parts. -/
import Derived.Test.YtampfciacjifgaaNes
import Derived.Test.YtampfciacjifgaaPt0
import Derived.Deep.RegionLaw
namespace Go.Proofs.Ytampfciacjifgaa
open Go.ChangeShapes Go.WideShapes Go.ChangeAt Go.RowKit
set_option linter.unusedVariables false
set_option linter.unusedSimpArgs false

theorem info29 : (Try.prog.info? 29).map (fun i => (i.zero, i.size, i.bytes)) = some (some (.slice none 0 0), 1, 24) := by kernel_rfl
/-- What the loop of parts keeps. -/
structure Pt (B : Nat) (w wr : World) (g n : Nat) (R : Nat → Nat) (i : Nat) (v : Value) (ls : List (List Nat)) : Prop where
  s : Sets wr g n R
  p : ∃ f : Nat → Int, Row wr w.heap.size n f ∧ ∀ r, r < i → R r = r → f r = ((roots R r).length : Nat)
  q : Nest (w.heap.size + 1) wr v ls
  b : Below B w wr
  z : w.heap.size + 1 ≤ wr.heap.size
theorem Pt.at_ {B : Nat} {w wr w1 : World} {g n : Nat} {R : Nat → Nat} {i : Nat} {v : Value} {ls : List (List Nat)} (h : Pt B w wr g n R i v ls) (hg : g < w.heap.size) (hB : B ≤ g) (hs : Sets w1 g n R) (A : At g wr w1) : Pt B w w1 g n R i v ls := by
  obtain ⟨f, hf, hr⟩ := h.p
  exact ⟨hs, ⟨f, Has.at_ hf A (by omega), hr⟩, h.q.at_ A (by omega), h.b.trans (A.below hB), by rw [A.size]; exact h.z⟩
theorem Pt.on {B : Nat} {w wr w1 : World} {g n : Nat} {R : Nat → Nat} {i : Nat} {v : Value} {ls : List (List Nat)} (h : Pt B w wr g n R i v ls) (hB : B ≤ w.heap.size) (hb : Below wr.heap.size wr w1) : Pt B w w1 g n R i v ls := by
  obtain ⟨f, hf, hr⟩ := h.p
  exact ⟨h.s.on hb, ⟨f, Has.on hf hb, hr⟩, h.q.on hb, h.b.trans (hb.mono (by have := h.z; omega)), Nat.le_trans h.z hb.size⟩
theorem Sets.at_ {w w1 : World} {g n k : Nat} {R : Nat → Nat} (h : Sets w g n R) (A : At k w w1) (hk : g ≠ k) : Sets w1 g n R := by
  obtain ⟨p, r, m⟩ := h; exact ⟨p, Has.at_ r A hk, m⟩
/-- A first node has its place. -/
theorem Pt.place {B : Nat} {w wr : World} {g n : Nat} {R : Nat → Nat} {k : Nat} {v : Value} {ls : List (List Nat)} (h : Pt B w wr g n R k v ls) (hg : g < w.heap.size) (hB : B ≤ g) {z : Int} (hz : z = ((roots R k).length : Nat)) :
    Pt B w (wr.setCell ⟨w.heap.size, k, none⟩ (.int .i64 z)) g n R (k + 1) v ls := by
  obtain ⟨f, hf, hr⟩ := h.p
  have A : At w.heap.size wr (wr.setCell ⟨w.heap.size, k, none⟩ (.int .i64 z)) := (At.refl _ wr).put _ _
  refine ⟨h.s.at_ A (by omega), ⟨_, hf.put k z, fun r h1 h2 => ?_⟩, h.q.at_ A (by omega), h.b.trans (A.below (by omega)), by rw [A.size]; exact h.z⟩
  unfold upd
  split
  · subst_vars; rfl
  · exact hr r (by omega) h2
theorem Pt.push {B : Nat} {w wr w1 : World} {g n : Nat} {R : Nat → Nat} {i : Nat} {v v' : Value} {vs : List Value} {ls : List (List Nat)} (h : Pt B w wr g n R i v ls) (hg : g < w.heap.size) (hB : B ≤ g)
    (o : wr.ownsRow (w.heap.size + 1) 29 1 v ls.length vs) (I : Inn (w.heap.size + 1) wr v.ownBlock vs ls)
    (o1 : w1.ownsRow (w.heap.size + 1) 29 1 v' (ls.length + 1) (vs ++ [.slice none 0 0])) (hgr : wr.grownBy w1 v.ownBlock) (hv : v'.ownBlock = v.ownBlock ∨ v'.ownBlock = some wr.heap.size) : Pt B w w1 g n R i v' (ls ++ [[]]) := by
  obtain ⟨f, hf, hr⟩ := h.p
  have lo : ∀ k, v.ownBlock = some k → w.heap.size + 1 ≤ k := fun k e => (o.lt _ e).1
  refine ⟨h.s.grown_ hgr (fun e => by have := lo _ e.symm; omega), ⟨f, Has.grown_ hf hgr (fun e => by have := lo _ e.symm; omega), hr⟩, Nest.push o I (World.ownsRow_nil _ _ _ _) (fun _ _ _ _ _ e => by cases e) (fun _ e => by cases e) o1 hgr hv, ?_, Nat.le_trans h.z hgr.size⟩
  exact h.b.grown hgr (by have := h.z; omega) (fun k e => by have := lo _ e; omega)
theorem Pt.grow {B G cap j : Nat} {w wr w1 : World} {g n : Nat} {R : Nat → Nat} {i k : Nat} {u u' : Value} {vs : List Value} {ls : List (List Nat)} {xs : List Nat} (h : Pt B w wr g n R i (.slice (some ⟨G, 0, none⟩) ls.length cap) ls) (hg : g < w.heap.size) (hB : B ≤ g)
    (o : wr.ownsRow (w.heap.size + 1) 29 1 (.slice (some ⟨G, 0, none⟩) ls.length cap) ls.length vs) (I : Inn (w.heap.size + 1) wr (some G) vs ls) (hu : vs[j]? = some u) (hx : ls[j]? = some xs)
    (o1 : w1.ownsRow (w.heap.size + 1) 3 1 u' (xs.length + 1) (ints xs ++ [.int .i64 (k : Int)])) (hgr : wr.grownBy w1 u.ownBlock) (hv : u'.ownBlock = u.ownBlock ∨ u'.ownBlock = some wr.heap.size) :
    Pt B w (w1.setCell ⟨G, j, none⟩ u') g n R i (.slice (some ⟨G, 0, none⟩) ls.length cap) (ls.set j (xs ++ [k])) := by
  obtain ⟨f, hf, hr⟩ := h.p
  have hown := I.own j u xs hu hx
  have lo : ∀ k, u.ownBlock = some k → w.heap.size + 1 ≤ k := fun k e => (World.ownsRow.lt hown _ e).1
  have lG := (o.lt G rfl).1
  have A : At G w1 (w1.setCell ⟨G, j, none⟩ u') := (At.refl _ w1).put _ _
  refine ⟨(h.s.grown_ hgr (fun e => by have := lo _ e.symm; omega)).at_ A (by omega), ⟨f, Has.at_ (Has.grown_ hf hgr (fun e => by have := lo _ e.symm; omega)) A (by omega), hr⟩, Nest.grow o I rfl hu hx o1 hgr hv, ?_, ?_⟩
  · exact (h.b.grown hgr (by have := h.z; omega) (fun k e => by have := lo _ e; omega)).trans (A.below (by omega))
  · rw [A.size]; exact Nat.le_trans h.z hgr.size
theorem Pt.next {B : Nat} {w wr : World} {g n : Nat} {R : Nat → Nat} {k : Nat} {v : Value} {ls : List (List Nat)} (h : Pt B w wr g n R k v ls) (hr : R k ≠ k) : Pt B w wr g n R (k + 1) v ls := by
  obtain ⟨f, hf, e⟩ := h.p
  refine ⟨h.s, ⟨f, hf, fun r h1 h2 => e r ?_ h2⟩, h.q, h.b, h.z⟩
  rcases Nat.lt_or_ge r k with k1 | k1
  · exact k1
  · have : r = k := by omega
    subst this; exact absurd h2 hr

theorem Nest.facts {B : Nat} {w : World} {v : Value} {ls : List (List Nat)} {i : Nat} {xs : List Nat} (h : Nest B w v ls) (hx : ls[i]? = some xs) :
    ∃ G cap vs u, v = .slice (some ⟨G, 0, none⟩) ls.length cap ∧ B ≤ G ∧ G < w.heap.size ∧ w.ownsRow B 29 1 (.slice (some ⟨G, 0, none⟩) ls.length cap) ls.length vs ∧ Inn B w (some G) vs ls ∧ vs[i]? = some u ∧ Own B w u xs ∧ w.cell? ⟨G, i, none⟩ = some u ∧ w.frozen? ⟨G, i, none⟩ = false ∧ (∀ b, u.ownBlock = some b → b ≠ G) := by
  obtain ⟨vs, o, I⟩ := h
  have hi : i < ls.length := (List.getElem?_eq_some_iff.1 hx).1
  obtain ⟨G, cap, rfl, hB, hG⟩ := o.form (by omega)
  have hu : vs[i]? = some (vs[i]'(by rw [I.len]; exact hi)) := List.getElem?_eq_getElem _
  refine ⟨G, cap, vs, _, rfl, hB, hG, o, I, hu, I.own i _ xs hu hx, ?_, World.ownsRow.frozenAt o i, ?_⟩
  · rw [World.ownsRow.cellAt o i (by omega)]; exact hu
  · intro b hb e
    subst e
    exact I.out i _ b hu hb rfl

set_option maxRecDepth 100000 in
set_option maxHeartbeats 4000000 in
theorem parts_any (B g n : Nat) (R : Nat → Nat) (w : World) (hn : n ≤ 1000) (hB : B ≤ g) (h : Sets w g n R) :
    Calls Try.prog 39 #[.slice (some ⟨g, 0, none⟩) n n] w fun e w' => ∃ v, e = .returned v ∧ Nest (w.heap.size + 1) w' v (partsL R n) ∧ Below B w w' := by
  obtain ⟨i0, hi, hz0, hz1, hz2⟩ := info_parts info3
  obtain ⟨j0, hj, hy0, hy1, hy2⟩ := info_parts info29
  have le := h.le
  have idm := h.idem
  have gs := h.size_
  go_enter Try.func39, Try.ntmps39
  go_wp2_with (at_make; refine wpList_make_full _ rfl _ _ 29 rfl w.heap.size 3 i0 _ 1 Try.underlying29 hi hz0 hz1 _ _ _ _ n rfl rfl rfl rfl (by rw [hz2]; omega) (by unfold maxLen; omega) (Nat.le_refl _) ?_)
  intro w1 hown hgrow
  have D0 : Pt B w w1 g n R 0 (.slice none 0 0) (partsL R 0) := ⟨h.grown_ hgrow (by simp), ⟨_, row_zero hown, fun r hr => absurd hr (Nat.not_lt_zero r)⟩, Nest.nil _ _, below_grown (Below.refl _ w) hgrow (by omega), Has.size_ (row_zero hown)⟩
  clear hown hgrow
  go_wp2
  go_loopw [3, 12] (fun v3 v wr => ∃ k : Nat, v = .int .i64 k ∧ k ≤ n ∧ Hid (Pt B w wr g n R k v3 (partsL R k))) (fun _ v _ => n - (intOf v).toNat)
  case atStart => exact ⟨0, rfl, Nat.zero_le _, Lib.hid D0⟩
  case round =>
    clear D0
    obtain ⟨k, rfl, hk, D⟩ := hrel
    by_cases hlt : k < n
    · have hlt0 := hlt
      have g1 : decide ((k : Int) < (n : Int)) = true := by simp [hlt]
      have W1 : IntKind.i64.wrap ((k : Int) + 1) = ((k + 1 : Nat) : Int) := by rw [IntWalk.i64_in _ (by omega)]; omega
      have DS := D.out.s
      by_cases hr : R k = k
      · have t1 : (((R k : Nat) : Int) == (k : Int)) = true := by simp [hr]
        obtain ⟨q0, c0, hu3⟩ : ∃ q c, u3 = .slice q (partsL R k).length c := by
          obtain ⟨vs, o, -⟩ := D.out.q
          rcases o.2 with ⟨rfl, h⟩ | ⟨g, c, cur, rfl, -⟩
          · exact ⟨none, 0, by rw [h]⟩
          · exact ⟨_, _, rfl⟩
        subst hu3
        have ml : (partsL R k).length ≤ k := by rw [partsL_len]; exact roots_le R k
        have HL := Lib.hid (partsL_len R k)
        have NWf : ∀ w2 : World, ((w2.setCell ⟨w.heap.size, k, none⟩ (.int .i64 ((partsL R k).length : Nat))).alloc (.cells #[.slice none 0 0] 29)).heap[w2.heap.size]? = some (.cells #[.slice none 0 0] 29 (0, 0)) := by
          intro w2
          have := heap_alloc_new (w2.setCell ⟨w.heap.size, k, none⟩ (.int .i64 ((partsL R k).length : Nat))) (.cells #[.slice none 0 0] 29)
          rwa [show (w2.setCell ⟨w.heap.size, k, none⟩ (.int .i64 ((partsL R k).length : Nat))).heap.size = w2.heap.size by simp [World.setCell]] at this
        go_wp2_with (first
          | (go_at_call 64; (with_reducible refine (find_any g n k R _ hn DS hlt).mono ?_); rintro e w2 ⟨rfl, h2, A2⟩; have D2 := D.out.at_ gs hB h2 A2; have cF : ∃ v : Value, w2.cell? ⟨w.heap.size, k, none⟩ = some v := (by obtain ⟨f, hf, -⟩ := D2.p; exact ⟨_, hf.read hlt⟩); obtain ⟨v9, cF⟩ := cF; have fF : w2.frozen? ⟨w.heap.size, k, none⟩ = false := (by obtain ⟨f, hf, -⟩ := D2.p; exact Has.open_ hf k); have D8 := D2.place gs hB (z := ((partsL R k).length : Nat)) (by rw [HL.out]); obtain ⟨vs, o, I⟩ := D8.q)
          | (at_builtin; have NW := NWf w2; refine wpList_append_own_at _ rfl _ _ 25 rfl (w.heap.size + 1) 29 j0 _ 1 24 Try.underlying25 hj hy0 hy1 hy2 rfl (by decide) _ (partsL R k).length vs rfl (own_on o (al1 _ _)) ⟨w2.heap.size, 0, none⟩ 1 1 [.slice none 0 0] rfl rfl (World.news_of_block (cs := #[.slice none 0 0]) (t := 29) (fr := (0, 0)) NW) (by simp [Value.oneCell']) (by unfold maxLen; omega) (by omega) (Nat.le_trans D8.z (al1 _ _).size) ?_))
        intro v' w3 o1 o2 o3 o4
        have ob1 := al1 (w2.setCell ⟨w.heap.size, k, none⟩ (.int .i64 ((partsL R k).length : Nat))) (.cells #[.slice none 0 0] 29)
        have D9 := (D8.on (by omega) ob1).push gs hB (own_on o ob1) (I.on ob1) o1 o2 (by simpa [World.setCell] using o4)
        clear o1 o2 o3 o4 ob1 o I D8 D2 cF fF DS D h2 A2
        have hP : partsL R (k + 1) = partsL R k ++ [[k]] := partsL_new le hr
        obtain ⟨ls, hls⟩ : ∃ ls, ls = partsL R k ++ [[]] := ⟨_, rfl⟩
        have hl1 : ls.length = (partsL R k).length + 1 := by rw [hls]; simp
        have hx : ls[(partsL R k).length]? = some [] := by rw [hls]; simp
        have hs : partsL R (k + 1) = ls.set (partsL R k).length ([] ++ [k]) := by rw [hls, hP, List.set_append_right _ _ (Nat.le_refl _)]; simp
        rw [← hls] at D9
        go_wp2
        obtain ⟨f, hf, hfr⟩ := D9.p
        have cp := hf.read hlt
        rw [hfr k (by omega) hr, ← HL.out] at cp
        obtain ⟨G, cap, vs, u, rfl, hBG, hGs, o, I, hu, hown, cu, fu, hne⟩ := D9.q.facts hx
        have PL := D9.z
        have PM : w.heap.size < w3.heap.size := by omega
        have npG : w.heap.size ≠ G := by omega
        have npu : some w.heap.size ≠ u.ownBlock := fun e => by have := (World.ownsRow.lt hown _ e.symm).1; omega
        have nGu : some G ≠ u.ownBlock := fun e => hne G e.symm rfl
        have b1 : (0 : Int) ≤ ((partsL R k).length : Nat) := by omega
        have b2 : (((partsL R k).length : Nat) : Int) < (ls.length : Nat) := by omega
        have b3 : (k : Int) < (n : Int) := by omega
        have b4 : (0 : Int) ≤ (k : Int) := by omega
        have HD := Lib.hid D9
        have HP := Lib.hid hs
        have HL1 := Lib.hid hl1
        have HLS := Lib.hid hls
        clear D9 hP hf hfr hs hl1 hls
        go_region_law ((refine step_append_lies _ rfl _ _ _ rfl (w.heap.size + 1) 3 i0 _ 1 8 Try.underlying29 hi hz0 hz1 hz2 rfl (by omega) u ([] : List Nat).length (ints []) (by simp [Act.eval, Act.put]) (own_on hown (Below.drew (al1 w3 (.cells #[.int .i64 (k : Int)] 3)))) ⟨w3.heap.size, 0, none⟩ 1 1 [.int .i64 (k : Int)] (by simp [Act.eval, Act.put]) rfl (World.news_of_block (cs := #[.int .i64 (k : Int)]) (t := 3) (fr := (0, 0)) (heap_alloc_new w3 _)) (by simp [Value.oneCell']) (by omega) (by unfold maxLen; simp) (by simp) (by simp; omega) (w3.heap.size + 1) (by simp) ?_); intro gg cap2 w1 hown1 hgrow hat hlt; have FF : w1.frozen? ⟨G, (partsL R k).length, none⟩ = false := (hgrow.frozen_far ⟨G, (partsL R k).length, none⟩ (by simp; omega) nGu).trans (((al1 w3 _).frozen hGs).trans fu); have CC : w1.cell? ⟨G, (partsL R k).length, none⟩ = some u := (hgrow.cell_far ⟨G, (partsL R k).length, none⟩ (by simp; omega) nGu).trans (((al1 w3 _).cell hGs).trans cu); have CP : w1.cell? ⟨w.heap.size, k, none⟩ = some (.int .i64 ((partsL R k).length : Nat)) := (hgrow.cell_far _ (by simp; omega) npu).trans (((al1 w3 _).cell (show w.heap.size < w3.heap.size by omega)).trans cp))
        all_goals (
          clear FF CC CP cu fu
          have ob : Below w3.heap.size w3 (w3.alloc (.cells #[.int .i64 (k : Int)] 3)).drew := Below.drew (al1 w3 (.cells #[.int .i64 (k : Int)] 3))
          have E1 := (HD.out.on (by omega) ob).grow (xs := []) gs hB (own_on o ob) (I.on ob) hu hx hown1 hgrow (by rcases hat with e | rfl; (focus exact .inl e.symm); exact .inr (by simp [Value.ownBlock]))
          rw [← HP.out] at E1
          have el : ls.length = (partsL R (k + 1)).length := by rw [HP.out, List.length_set]
          clear hown1 hgrow hat
          go_wp2
          exact ⟨⟨k + 1, rfl, hlt0, Lib.hid E1⟩, by simp [intOf]; omega⟩)
      · have t1 : (((R k : Nat) : Int) == (k : Int)) = false := by simp; omega
        go_wp2_with (go_at_call 64; (with_reducible refine (find_any g n k R _ hn DS hlt).mono ?_); rintro e w2 ⟨rfl, h2, A2⟩)
        have D2 := D.out.at_ gs hB h2 A2
        clear D DS h2 A2
        obtain ⟨hlen, xs, hx, hxl, hP⟩ := partsL_old le idm hr
        have lk : R k < k := by have := le k; omega
        obtain ⟨f, hf, hfr⟩ := D2.p
        have cp := hf.read (show R k < n by omega)
        rw [hfr _ lk (idm k)] at cp
        obtain ⟨G, cap, vs, u, rfl, hBG, hGs, o, I, hu, hown, cu, fu, hne⟩ := D2.q.facts hx
        have PL := D2.z
        have PM : w.heap.size < w2.heap.size := by omega
        have npG : w.heap.size ≠ G := by omega
        have npu : some w.heap.size ≠ u.ownBlock := fun e => by have := (World.ownsRow.lt hown _ e.symm).1; omega
        have nGu : some G ≠ u.ownBlock := fun e => hne G e.symm rfl
        have b1 : (0 : Int) ≤ ((roots R (R k)).length : Nat) := by omega
        have b2 : (((roots R (R k)).length : Nat) : Int) < ((partsL R k).length : Nat) := by omega
        have b3 : ((R k : Nat) : Int) < (n : Int) := by omega
        have b4 : (0 : Int) ≤ ((R k : Nat) : Int) := by omega
        have ul : xs.length + 1 ≤ maxLen := by unfold maxLen; omega
        have HD := Lib.hid D2
        have HP := Lib.hid hP
        have HF := Lib.hid (And.intro hf hfr)
        clear D2 hP hf hfr
        go_region_law ((refine step_append_lies _ rfl _ _ _ rfl (w.heap.size + 1) 3 i0 _ 1 8 Try.underlying29 hi hz0 hz1 hz2 rfl (by omega) u xs.length (ints xs) (by simp [Act.eval, Act.put]) (own_on hown (Below.drew (al1 w2 (.cells #[.int .i64 (k : Int)] 3)))) ⟨w2.heap.size, 0, none⟩ 1 1 [.int .i64 (k : Int)] (by simp [Act.eval, Act.put]) rfl (World.news_of_block (cs := #[.int .i64 (k : Int)]) (t := 3) (fr := (0, 0)) (heap_alloc_new w2 _)) (by simp [Value.oneCell']) (by omega) ul (by omega) (by simp; omega) (w2.heap.size + 1) (by simp) ?_); intro gg cap2 w1 hown1 hgrow hat hlt; have FF : w1.frozen? ⟨G, (roots R (R k)).length, none⟩ = false := (hgrow.frozen_far ⟨G, (roots R (R k)).length, none⟩ (by simp; omega) nGu).trans (((al1 w2 _).frozen hGs).trans fu); have CC : w1.cell? ⟨G, (roots R (R k)).length, none⟩ = some u := (hgrow.cell_far ⟨G, (roots R (R k)).length, none⟩ (by simp; omega) nGu).trans (((al1 w2 _).cell hGs).trans cu); have CP : w1.cell? ⟨w.heap.size, R k, none⟩ = some (.int .i64 ((roots R (R k)).length : Nat)) := (hgrow.cell_far _ (by simp; omega) npu).trans (((al1 w2 _).cell (show w.heap.size < w2.heap.size by omega)).trans cp))
        all_goals (
          clear FF CC CP cu fu
          have ob : Below w2.heap.size w2 (w2.alloc (.cells #[.int .i64 (k : Int)] 3)).drew := Below.drew (al1 w2 (.cells #[.int .i64 (k : Int)] 3))
          have E0 := (HD.out.on (by omega) ob).grow gs hB (own_on o ob) (I.on ob) hu hx hown1 hgrow (by rcases hat with e | rfl; (focus exact .inl e.symm); exact .inr (by simp [Value.ownBlock]))
          rw [← HP.out] at E0
          have E1 := E0.next hr
          have el : (partsL R k).length = (partsL R (k + 1)).length := by rw [HP.out, List.length_set]
          clear E0 hown1 hgrow hat
          go_wp2
          exact ⟨⟨k + 1, rfl, hlt0, Lib.hid E1⟩, by simp [intOf]; omega⟩)
    · have g1 : decide ((k : Int) < (n : Int)) = false := by simp; omega
      have e : k = n := by omega
      subst e
      go_wp2
      go_ret
      exact ⟨_, rfl, D.out.q, D.out.b⟩
end Go.Proofs.Ytampfciacjifgaa
