/- What the walks of this seat keep: blocks, rows of whole numbers, worlds that differ in one block. What a walk keeps: the blocks that it laid, as they are known, the newest first. Sides of boxes: the coordinates' pointers, the sides, and what is reckoned of one or two sides. What is reckoned of one or two sides. Valid. Lists of boxes, as they come in. Rows of numbers, of sides, of triples of sides and of sets: read, and of a call's own. holding: which sides contain a part. How a pair of sides ends up in memory, whatever comes first. -/
import Derived.Test.YtkgaahmehmbfjaaRows
import Derived.WalkKit
import Derived.ProofKit
import Derived.OpenShut
import Derived.Deep.QuietTactic
import Derived.BigQuiet
import Derived.Outline
import Derived.IntWalk
import Derived.Lib.Hide
import Derived.Deep.RegionHeld3
import Derived.Deep.AppendLies
import Derived.Laws.OwnMore
import Derived.Laws.Rows
import Derived.Deep.Draws
import Derived.OwnWalk
import Derived.Deep.RegionLaw
import Derived.Deep.DeepCutAuto
import Derived.Deep.LoopGhost
import Derived.Deep.Fields
import Derived.StillTailTactics
import Derived.WalkSpells
import Derived.Maps.AppendAt
import Derived.Laws.Bits64b
namespace Go.Proofs.Ytkgaahmehmbfjaa
open Go.ChangeShapes Go.WideShapes Go.ChangeAt Go.RowKit
set_option linter.unusedVariables false
set_option linter.unusedSimpArgs false

theorem ret_one {k : IntKind} {a b : Int} (h : a = b) : Ending.returned (.int k a) = .returned (.int k b) := by rw [h]
theorem belows {a b c : World} (h1 : Below a.heap.size a b) (h2 : Below b.heap.size b c) : Below a.heap.size a c := h1.trans (h2.mono h1.size)
theorem below_drewN {B : Nat} {a w : World} (h : Below B a w) (n : Nat) : Below B a (w.drewN n) := ⟨h.os, h.tape, h.output, h.size, h.block⟩
theorem al {a w : World} (h : Below a.heap.size a w) (o : Obj) : Below a.heap.size a (w.alloc o) := h.alloc h.size o
theorem al1 (a : World) (o : Obj) : Below a.heap.size a (a.alloc o) := al (Below.refl _ _) o
def I64 (n : Int) : Prop := -9223372036854775808 ≤ n ∧ n ≤ 9223372036854775807

/-- Block g is just these cells, none of them frozen. -/
def Has (w : World) (g : Nat) (t : TypeId) (cs : Array Value) : Prop := w.heap[g]? = some (.cells cs t (0, 0))
theorem Has.size_ {w : World} {g : Nat} {t : TypeId} {cs : Array Value} (h : Has w g t cs) : g < w.heap.size := by
  unfold Has at h
  exact (Array.getElem?_eq_some_iff.1 h).1
theorem Has.read {w : World} {g : Nat} {t : TypeId} {cs : Array Value} (h : Has w g t cs) (i : Nat) : w.cell? ⟨g, i, none⟩ = cs[i]? := cell_of_row w g i cs t (0, 0) h
theorem Has.open_ {w : World} {g : Nat} {t : TypeId} {cs : Array Value} (h : Has w g t cs) (i : Nat) : w.frozen? ⟨g, i, none⟩ = false := by
  simp only [Has] at h; simp [World.frozen?, h]
theorem Has.new_ (w : World) (t : TypeId) (cs : Array Value) : Has (w.alloc (.cells cs t)) w.heap.size t cs := heap_alloc_new w _
theorem Has.drew_ {w : World} {g : Nat} {t : TypeId} {cs : Array Value} (h : Has w g t cs) : Has w.drew g t cs := h
theorem Has.put_ {w : World} {g : Nat} {t : TypeId} {cs : Array Value} (h : Has w g t cs) (i : Nat) (u : Value) : Has (w.setCell ⟨g, i, none⟩ u) g t (cs.setIfInBounds i u) := by
  simp only [Has] at h ⊢; simp [World.setCell, Array.getElem?_modify, h]
theorem Has.apart_ {w : World} {g : Nat} {t : TypeId} {cs : Array Value} (h : Has w g t cs) {p : Addr} (hp : g ≠ p.block) (u : Value) : Has (w.setCell p u) g t cs := by
  unfold Has; rw [Below.heap_setCell w p u g hp]; exact h
theorem Has.on {w w' : World} {g : Nat} {t : TypeId} {cs : Array Value} (h : Has w g t cs) (hb : Below w.heap.size w w') : Has w' g t cs := by
  unfold Has; rw [hb.block g h.size_]; exact h
theorem Has.grown_ {w w' : World} {g : Nat} {t : TypeId} {cs : Array Value} {row : Option Nat} (h : Has w g t cs) (hb : w.grownBy w' row) (hg : some g ≠ row) : Has w' g t cs := by
  unfold Has; rw [hb.block g h.size_ hg]; exact h

/-- The world is as it was, but for block g. -/
structure At (g : Nat) (w w' : World) : Prop where
  os : w'.os = w.os
  tape : w'.tape = w.tape
  output : w'.output = w.output
  size : w'.heap.size = w.heap.size
  block : ∀ k, k ≠ g → w'.heap[k]? = w.heap[k]?
theorem At.refl (g : Nat) (w : World) : At g w w := ⟨rfl, rfl, rfl, rfl, fun _ _ => rfl⟩
theorem At.trans {g : Nat} {a b c : World} (h : At g a b) (k : At g b c) : At g a c := ⟨k.os.trans h.os, k.tape.trans h.tape, k.output.trans h.output, k.size.trans h.size, fun j hj => (k.block j hj).trans (h.block j hj)⟩
theorem At.put {g : Nat} {a w : World} (h : At g a w) (i : Nat) (u : Value) : At g a (w.setCell ⟨g, i, none⟩ u) :=
  h.trans ⟨rfl, rfl, rfl, by simp [World.setCell], fun k hk => Below.heap_setCell _ _ _ _ hk⟩
theorem At.below {g B : Nat} {w w' : World} (h : At g w w') (hB : B ≤ g) : Below B w w' := ⟨h.os, h.tape, h.output, Nat.le_of_eq h.size.symm, fun k hk => h.block k (by omega)⟩
theorem Has.at_ {w w' : World} {g k : Nat} {t : TypeId} {cs : Array Value} (h : Has w k t cs) (hb : At g w w') (hk : k ≠ g) : Has w' k t cs := by
  unfold Has; rw [hb.block k hk]; exact h

/-- A row of n whole numbers that fills block g. -/
def Row (w : World) (g n : Nat) (f : Nat → Int) : Prop := Has w g 3 ((List.range n).map fun i => Value.int .i64 (f i)).toArray
def upd {α : Type} (f : Nat → α) (i : Nat) (v : α) (j : Nat) : α := if j = i then v else f j
theorem upd_same {α : Type} (f : Nat → α) (i : Nat) (v : α) : upd f i v i = v := if_pos rfl
theorem upd_other {α : Type} {f : Nat → α} {i j : Nat} {v : α} (h : j ≠ i) : upd f i v j = f j := if_neg h
theorem Row.read {w : World} {g n : Nat} {f : Nat → Int} (h : Row w g n f) {i : Nat} (hi : i < n) : w.cell? ⟨g, i, none⟩ = some (.int .i64 (f i)) := by
  rw [Has.read h i]; simp [hi]
theorem Row.put {w : World} {g n : Nat} {f : Nat → Int} (h : Row w g n f) (i : Nat) (v : Int) : Row (w.setCell ⟨g, i, none⟩ (.int .i64 v)) g n (upd f i v) := by
  have k := Has.put_ h i (.int .i64 v)
  have e : (((List.range n).map fun i => Value.int .i64 (f i)).toArray.setIfInBounds i (.int .i64 v)) = ((List.range n).map fun j => Value.int .i64 (upd f i v j)).toArray := by
    apply Array.ext
    · simp
    · intro j h1 h2
      simp only [Array.getElem_setIfInBounds, List.getElem_toArray, List.getElem_map, List.getElem_range, upd]
      by_cases hj : i = j
      · simp [hj]
      · simp [hj, Ne.symm hj]
  rw [e] at k; exact k
theorem Row.cong {w : World} {g n : Nat} {f f' : Nat → Int} (h : Row w g n f) (e : ∀ i, i < n → f i = f' i) : Row w g n f' := by
  unfold Row at *
  rw [show ((List.range n).map fun i => Value.int .i64 (f' i)) = (List.range n).map fun i => Value.int .i64 (f i) from List.map_congr_left fun i hi => by rw [e i (List.mem_range.1 hi)]]
  exact h
theorem info3 : (Try.prog.info? 3).map (fun i => (i.zero, i.size, i.bytes)) = some (some (.int .i64 0), 1, 8) := by kernel_rfl
theorem has_full {w : World} {base g n size : Nat} {e : TypeId} {xs : List Value} (h : w.ownsRow base e size (.slice (some ⟨g, 0, none⟩) n n) n xs) : Has w g e xs.toArray := by
  obtain ⟨hl, ⟨h, -⟩ | ⟨g', cap, cur, hv, -, hg, -, -, hs, ht⟩⟩ := h
  · cases h
  · simp only [Value.slice.injEq, Option.some.injEq, Addr.mk.injEq] at hv
    obtain ⟨⟨rfl, -⟩, -, rfl⟩ := hv
    have : cur = xs.toArray := by
      rw [← ht, List.take_of_length_le (by simp [hs])]
    rw [this] at hg; exact hg
theorem row_zero {w : World} {base g n : Nat} (h : w.ownsRow base 3 1 (.slice (some ⟨g, 0, none⟩) n n) n (madeCells #[Value.int .i64 0] n).toList) : Row w g n (fun _ => 0) := by
  have k := has_full h
  unfold Row
  have e : (madeCells #[Value.int .i64 0] n).toList = (List.range n).map fun _ => Value.int .i64 0 := by
    rw [toList_madeCells_one]
    apply List.ext_getElem <;> simp
  rw [e] at k; exact k
theorem below_grown {B : Nat} {a w w' : World} (h : Below B a w) (hg : w.grownBy w' none) (hB : B ≤ w.heap.size) : Below B a w' := h.grown hg hB (fun k hk => by cases hk)
theorem below_al {a w : World} (h : Below a.heap.size a w) (o : Obj) : Below a.heap.size a (w.alloc o) := al h o
theorem below_dr {a w : World} (h : Below a.heap.size a w) : Below a.heap.size a w.drew := Below.drew h
end Go.Proofs.Ytkgaahmehmbfjaa
namespace Go.Proofs.Ytkgaahmehmbfjaa
open Go.ChangeShapes Go.WideShapes Go.ChangeAt Go.RowKit
set_option linter.unusedVariables false
set_option linter.unusedSimpArgs false

structure Fb where
  g : Nat
  t : TypeId
  cs : Array Value
def CF (w : World) (g : Nat) : Nat → List Value → Prop
  | _, [] => True
  | o, v :: l => (w.cell? ⟨g, o, none⟩ = some v ∧ w.frozen? ⟨g, o, none⟩ = false) ∧ CF w g (o + 1) l
def BC (w : World) : List Fb → Prop
  | [] => True
  | x :: l => (x.g < w.heap.size ∧ CF w x.g 0 x.cs.toList) ∧ BC w l
def Blk (B : Nat) (w : World) : List Fb → Prop
  | [] => True
  | x :: l => B ≤ x.g ∧ Has w x.g x.t x.cs ∧ (∀ y ∈ l, y.g ≠ x.g) ∧ Blk B w l
theorem cf_of {w : World} {g : Nat} {t : TypeId} {cs : Array Value} (h : Has w g t cs) : ∀ (l : List Value) (o : Nat), cs.toList.drop o = l → CF w g o l
  | [], _, _ => trivial
  | v :: l, o, e => by
    refine ⟨⟨?_, h.open_ o⟩, cf_of h l (o + 1) (by rw [← List.drop_drop, e]; rfl)⟩
    rw [h.read o, ← Array.getElem?_toList, ← List.head?_drop, e]; rfl
theorem Blk.cells {B : Nat} {w : World} : ∀ {l : List Fb}, Blk B w l → BC w l
  | [], _ => trivial
  | _ :: _, h => ⟨⟨h.2.1.size_, cf_of h.2.1 _ 0 rfl⟩, Blk.cells h.2.2.2⟩
theorem Blk.on {B : Nat} {w w1 : World} (hb : Below w.heap.size w w1) : ∀ {l : List Fb}, Blk B w l → Blk B w1 l
  | [], _ => trivial
  | _ :: _, h => ⟨h.1, h.2.1.on hb, h.2.2.1, Blk.on hb h.2.2.2⟩
theorem Blk.lt {B : Nat} {w : World} : ∀ {l : List Fb}, Blk B w l → ∀ y ∈ l, y.g < w.heap.size
  | [], _, _, hy => by cases hy
  | x :: l, h, y, hy => by
    rcases List.mem_cons.1 hy with rfl | hy
    · exact h.2.1.size_
    · exact Blk.lt h.2.2.2 y hy
theorem Blk.ge {B : Nat} {w : World} : ∀ {l : List Fb}, Blk B w l → ∀ y ∈ l, B ≤ y.g
  | [], _, _, hy => by cases hy
  | x :: l, h, y, hy => by
    rcases List.mem_cons.1 hy with rfl | hy
    · exact h.1
    · exact Blk.ge h.2.2.2 y hy
theorem Blk.far {B : Nat} {w : World} {p : Addr} (u : Value) : ∀ {l : List Fb}, Blk B w l → (∀ y ∈ l, y.g ≠ p.block) → Blk B (w.setCell p u) l
  | [], _, _ => trivial
  | _ :: _, h, k => ⟨h.1, h.2.1.apart_ (k _ (List.mem_cons_self ..)) _, h.2.2.1, Blk.far u h.2.2.2 fun y hy => k y (List.mem_cons_of_mem _ hy)⟩
def setB (i : Nat) (u : Value) : Nat → List Fb → List Fb
  | _, [] => []
  | 0, x :: l => ⟨x.g, x.t, x.cs.setIfInBounds i u⟩ :: l
  | k + 1, x :: l => x :: setB i u k l
def numB : Nat → List Fb → Nat
  | _, [] => 0
  | 0, x :: _ => x.g
  | k + 1, _ :: l => numB k l
theorem setB_g (i : Nat) (u : Value) : ∀ (k : Nat) (l : List Fb), (setB i u k l).map (·.g) = l.map (·.g)
  | _, [] => by cases ‹Nat› <;> rfl
  | 0, x :: l => rfl
  | k + 1, x :: l => by simp [setB, setB_g i u k l]
theorem numB_mem : ∀ (k : Nat) (l : List Fb), k < l.length → numB k l ∈ l.map (·.g)
  | _, [], h => by simp at h
  | 0, x :: l, _ => by simp [numB]
  | k + 1, x :: l, h => by simp only [numB, List.map_cons, List.mem_cons]; right; exact numB_mem k l (by simpa using h)
theorem Blk.put {B : Nat} {w : World} (i : Nat) (u : Value) : ∀ (k : Nat) {l : List Fb}, Blk B w l → k < l.length → Blk B (w.setCell ⟨numB k l, i, none⟩ u) (setB i u k l)
  | _, [], _, h => by simp at h
  | 0, x :: l, h, _ => ⟨h.1, h.2.1.put_ i u, h.2.2.1, Blk.far u h.2.2.2 fun y hy => h.2.2.1 y hy⟩
  | k + 1, x :: l, h, hk => by
    have hk' : k < l.length := by simpa using hk
    have m := numB_mem k l hk'
    obtain ⟨y, hy, e⟩ := List.mem_map.1 m
    refine ⟨h.1, h.2.1.apart_ ?_ _, ?_, Blk.put i u k h.2.2.2 hk'⟩
    · have := h.2.2.1 y hy; simp only [numB]; omega
    · intro z hz
      have : z.g ∈ (setB i u k l).map (·.g) := List.mem_map.2 ⟨z, hz, rfl⟩
      rw [setB_g] at this
      obtain ⟨y', hy', e'⟩ := List.mem_map.1 this
      rw [← e']; exact h.2.2.1 y' hy'
def Env (w0 w : World) (l : List Fb) : Prop := Below w0.heap.size w0 w ∧ Blk w0.heap.size w l
theorem Env.nil (w : World) : Env w w [] := ⟨Below.refl _ _, trivial⟩
theorem Env.on {w0 w w1 : World} {l : List Fb} (h : Env w0 w l) (hb : Below w.heap.size w w1) : Env w0 w1 l := ⟨belows h.1 hb, h.2.on hb⟩
theorem Env.add {w0 w : World} {l : List Fb} (h : Env w0 w l) (n : Nat) (t : TypeId) (cs : Array Value) (e : w.heap.size = n) : Env w0 (w.alloc (.cells cs t)) (⟨n, t, cs⟩ :: l) := by
  subst e
  exact ⟨al h.1 _, h.1.size, Has.new_ _ _ _, fun y hy => Nat.ne_of_lt (h.2.lt y hy), h.2.on (al1 _ _)⟩
theorem Env.more {w0 w : World} {l : List Fb} (h : Env w0 w l) (o : Obj) : Env w0 (w.alloc o) l := h.on (al1 _ _)
theorem Env.drw {w0 w : World} {l : List Fb} (h : Env w0 w l) : Env w0 w.drew l := h.on (Below.drew (Below.refl _ _))
theorem Env.dr {w0 w : World} {l : List Fb} (h : Env w0 w l) (n : Nat) : Env w0 (w.drewN n) l := h.on (below_drewN (Below.refl _ _) n)
theorem Env.put {w0 w : World} {l : List Fb} (h : Env w0 w l) (k i : Nat) (u : Value) (hb : Nat.blt k l.length = true) : Env w0 (w.setCell ⟨numB k l, i, none⟩ u) (setB i u k l) := by
  have hk : k < l.length := by simpa using hb
  refine ⟨h.1.setCell ?_ _, h.2.put i u k hk⟩
  obtain ⟨y, hy, e⟩ := List.mem_map.1 (numB_mem k l hk)
  have := h.2.ge y hy; simp only; omega
theorem Env.cells {w0 w : World} {l : List Fb} (h : Env w0 w l) : BC w l := h.2.cells
theorem Env.tail {w0 w : World} {l : List Fb} {x : Fb} (h : Env w0 w (x :: l)) : Env w0 w l := ⟨h.1, h.2.2.2.2⟩
theorem Env.lt {w0 w : World} {l : List Fb} (h : Env w0 w l) (k : Nat) (hk : k < l.length) : numB k l < w.heap.size := by
  obtain ⟨y, hy, e⟩ := List.mem_map.1 (numB_mem k l hk)
  have := h.2.lt y hy; omega
theorem Env.swap {w0 w : World} {l : List Fb} {x y : Fb} (h : Env w0 w (x :: y :: l)) : Env w0 w (y :: x :: l) := by
  obtain ⟨hb, h1, h2, h3, h4, h5, h6, h7⟩ := h
  refine ⟨hb, h4, h5, ?_, h1, h2, ?_, h7⟩
  · intro z hz
    rcases List.mem_cons.1 hz with rfl | hz
    · exact fun e => h3 y (List.mem_cons_self ..) e.symm
    · exact h6 z hz
  · exact fun z hz => h3 z (List.mem_cons_of_mem _ hz)
theorem sz1 {w : World} {o : Obj} {n : Nat} (h : w.heap.size = n) : (w.alloc o).heap.size = n + 1 := by simp [h]
theorem Env.six {w0 w : World} {l : List Fb} {u0 u1 u2 u3 u4 u5 : Value} (h : Env w0 w l) (k : Nat) (hb : Nat.blt k l.length = true) :
    Env w0 ((((((w.setCell ⟨numB k l, 0, none⟩ u0).setCell ⟨numB k l, 1, none⟩ u1).setCell ⟨numB k l, 2, none⟩ u2).setCell ⟨numB k l, 3, none⟩ u3).setCell ⟨numB k l, 4, none⟩ u4).setCell ⟨numB k l, 5, none⟩ u5) (setB 5 u5 k (setB 4 u4 k (setB 3 u3 k (setB 2 u2 k (setB 1 u1 k (setB 0 u0 k l)))))) := by
  have e : ∀ (k : Nat) (l : List Fb) (i : Nat) (u : Value), numB k (setB i u k l) = numB k l := by
    intro k l i u
    induction l generalizing k with
    | nil => cases k <;> rfl
    | cons x l ih => cases k with
      | zero => rfl
      | succ k => exact ih k
  have e2 : ∀ (k : Nat) (l : List Fb) (i : Nat) (u : Value), (setB i u k l).length = l.length := by
    intro k l i u
    have := congrArg List.length (setB_g i u k l); simpa using this
  have h0 := h.put k 0 u0 hb
  have h1 := h0.put k 1 u1 (by rw [e2]; exact hb)
  have h2 := h1.put k 2 u2 (by rw [e2, e2]; exact hb)
  have h3 := h2.put k 3 u3 (by rw [e2, e2, e2]; exact hb)
  have h4 := h3.put k 4 u4 (by rw [e2, e2, e2, e2]; exact hb)
  have h5 := h4.put k 5 u5 (by rw [e2, e2, e2, e2, e2]; exact hb)
  simp only [e] at h5
  exact h5
theorem Env.cong {w0 w : World} {l l' : List Fb} (h : Env w0 w l) (e : l = l') : Env w0 w l' := e ▸ h
end Go.Proofs.Ytkgaahmehmbfjaa
namespace Go.Proofs.Ytkgaahmehmbfjaa
open Go.ChangeShapes Go.WideShapes Go.ChangeAt Go.RowKit
set_option linter.unusedVariables false
set_option linter.unusedSimpArgs false

/-- A contract for a call that makes memory, and changes none that was there. -/
def Fn (K : Nat) (args : Array Value) (r : Value) : Prop := ∀ w, Calls Try.prog K args w fun e w' => e = .returned r ∧ Below w.heap.size w w'
theorem coord_any (g o : Nat) (w : World) :
    Calls Try.prog 95 #[.pointer (some ⟨g, o, none⟩)] w fun e w' => e = .returned (.agg #[.pointer (some ⟨g, o, none⟩), .pointer (some ⟨g, o + 1, none⟩), .pointer (some ⟨g, o + 2, none⟩)]) ∧ Below w.heap.size w w' := by
  go_enter Try.func95, Try.ntmps95
  go_wp2
  go_region_law (fail)
  all_goals go_wp2
  all_goals refine bodyPost_ret (v := .agg #[.pointer (some ⟨g, o, none⟩), .pointer (some ⟨g, o + 1, none⟩), .pointer (some ⟨g, o + 2, none⟩)]) (by simp [results, Try.results95, go_sem]) rfl ⟨rfl, Below.drew (al1 _ _)⟩
def sdV (lo hi : Int) : Bool := decide (-1048576 ≤ lo) && decide (lo ≤ hi) && decide (hi ≤ 1048576)
theorem sdvalid_any (lo hi : Int) (w : World) :
    Calls Try.prog 72 #[.agg #[.int .i64 lo, .int .i64 hi]] w fun e w' => e = .returned (.bool (sdV lo hi)) ∧ Below w.heap.size w w' := by
  unfold sdV
  go_enter Try.func72, Try.ntmps72
  go_wp2
  all_goals go_ret
  all_goals refine ⟨?_, al1 _ _⟩
  all_goals simp_all
  all_goals omega
/-- Six cells of a block. -/
def C6 (a b c d e f : Int) : Array Value := #[.int .i64 a, .int .i64 b, .int .i64 c, .int .i64 d, .int .i64 e, .int .i64 f]
def P6 (g o : Nat) : Array Value := #[.pointer (some ⟨g, o, none⟩), .pointer (some ⟨g, o + 1, none⟩), .pointer (some ⟨g, o + 2, none⟩)]
/-- The cells of a list of sides behind i rounds. -/
def S6 (i : Nat) (a b c d e f : Int) : Array Value := #[.int .i64 (if 0 < i then a else 0), .int .i64 (if 0 < i then d else 0), .int .i64 (if 1 < i then b else 0), .int .i64 (if 1 < i then e else 0), .int .i64 (if 2 < i then c else 0), .int .i64 (if 2 < i then f else 0)]
/-- The blocks of sides: pointers, the list behind i rounds, the result, the box. -/
def Lsd (n m i : Nat) (a b c d e f : Int) : List Fb := [⟨m + 1, 132, P6 n 3⟩, ⟨m, 132, P6 n 0⟩, ⟨n + 1 + 1, 97, S6 i a b c d e f⟩, ⟨n + 1, 97, C6 0 0 0 0 0 0⟩, ⟨n, 30, C6 a b c d e f⟩]
set_option maxHeartbeats 4000000 in
set_option maxRecDepth 100000 in
theorem sides_any (a b c d e f : Int) (w : World) :
    Calls Try.prog 66 #[.agg #[.int .i64 a, .int .i64 b, .int .i64 c, .int .i64 d, .int .i64 e, .int .i64 f]] w fun E w' => E = .returned (.agg #[.int .i64 a, .int .i64 d, .int .i64 b, .int .i64 e, .int .i64 c, .int .i64 f]) ∧ Below w.heap.size w w' := by
  have E := (((Env.nil w).add w.heap.size 30 (C6 a b c d e f) rfl).add (w.heap.size + 1) 97 (C6 0 0 0 0 0 0) (by simp)).add (w.heap.size + 1 + 1) 97 (C6 0 0 0 0 0 0) (by simp)
  go_enter Try.func66, Try.ntmps66
  go_wp2_with (go_at_call 95; refine (coord_any _ _ _).mono ?_; rintro E w1 ⟨rfl, hb1⟩; replace E := E.on hb1; clear hb1)
  obtain ⟨W, hW⟩ : ∃ W, W = w1 := ⟨_, rfl⟩
  subst w1
  replace E := (E.add W.heap.size 132 (P6 w.heap.size 0) rfl).add (W.heap.size + 1) 132 (P6 w.heap.size 3) (by simp)
  go_loopw [11] (fun v11 wr => ∃ i : Nat, v11 = .int .i64 (i : Int) ∧ i ≤ 3 ∧ Env w wr (Lsd w.heap.size W.heap.size i a b c d e f)) (fun v _ => 3 - (intOf v).toNat)
  case atStart => exact ⟨0, rfl, by omega, E⟩
  case round =>
    clear E
    obtain ⟨i, rfl, hi, E⟩ := hrel
    rcases (by omega : i = 0 ∨ i = 1 ∨ i = 2 ∨ i = 3) with rfl | rfl | rfl | rfl
    · have C := E.cells
      simp [BC, CF, Lsd, C6, P6, S6] at C
      go_wp2
      go_still_tail 13, (by kernel_rfl)
      go_wp2
      go_roundw
      all_goals first | exact ⟨1, rfl, by omega, ((E.put 2 0 _ rfl).put 2 1 _ rfl).drw⟩ | (simp [intOf])
    · have C := E.cells
      simp [BC, CF, Lsd, C6, P6, S6] at C
      go_wp2
      go_still_tail 13, (by kernel_rfl)
      go_wp2
      go_roundw
      all_goals first | exact ⟨2, rfl, by omega, ((E.put 2 2 _ rfl).put 2 3 _ rfl).drw⟩ | (simp [intOf])
    · have C := E.cells
      simp [BC, CF, Lsd, C6, P6, S6] at C
      go_wp2
      go_still_tail 13, (by kernel_rfl)
      go_wp2
      go_roundw
      all_goals first | exact ⟨3, rfl, by omega, ((E.put 2 4 _ rfl).put 2 5 _ rfl).drw⟩ | (simp [intOf])
    · have C := E.cells
      simp [BC, CF, Lsd, C6, P6, S6] at C
      go_wp2
      refine bodyPost_ret (v := .agg #[.int .i64 a, .int .i64 d, .int .i64 b, .int .i64 e, .int .i64 c, .int .i64 f]) (by simp [results, Try.results66, go_sem, C]) rfl ⟨rfl, ?_⟩
      exact ((((((E.put 3 0 _ rfl).put 3 1 _ rfl).put 3 2 _ rfl).put 3 3 _ rfl).put 3 4 _ rfl).put 3 5 _ rfl).1
end Go.Proofs.Ytkgaahmehmbfjaa
namespace Go.Proofs.Ytkgaahmehmbfjaa
open Go.ChangeShapes Go.WideShapes Go.ChangeAt Go.RowKit
set_option linter.unusedVariables false
set_option linter.unusedSimpArgs false

def mx (a b : Int) : Int := if a < b then b else a
def mn (a b : Int) : Int := if b < a then b else a
/-- A coordinate, or what is near one. -/
def Sml (n : Int) : Prop := -1000000000000 ≤ n ∧ n ≤ 1000000000000
def gapS (p1 p2 q1 q2 : Int) : Int := mx (q1 - p2) (p1 - q2)
theorem sdgap_any (p1 p2 q1 q2 : Int) (w : World) (h1 : Sml p1) (h2 : Sml p2) (h3 : Sml q1) (h4 : Sml q2) :
    Calls Try.prog 94 #[.agg #[.int .i64 p1, .int .i64 p2], .agg #[.int .i64 q1, .int .i64 q2]] w fun e w' => e = .returned (.int .i64 (gapS p1 p2 q1 q2)) ∧ Below w.heap.size w w' := by
  unfold Sml at *
  have W1 : IntKind.i64.wrap (q1 - p2) = q1 - p2 := IntWalk.i64_in _ (by omega)
  have W2 : IntKind.i64.wrap (p1 - q2) = p1 - q2 := IntWalk.i64_in _ (by omega)
  unfold gapS
  go_enter Try.func94, Try.ntmps94
  go_wp2
  all_goals go_ret
  all_goals exact ⟨ret_one (by unfold mx; split <;> omega), al (al1 _ _) _⟩
def nearS (p1 p2 q1 q2 : Int) : Int × Int := if p2 < q1 then (p2, q1) else if q2 < p1 then (p1, q2) else (mx p1 q1, mx p1 q1)
theorem mn_l {a b : Int} (h : a < b) : mn b a = a := if_pos h
theorem mn_r {a b : Int} (h : ¬ a < b) : mn b a = b := if_neg h
theorem mx_l {a b : Int} (h : a < b) : mx a b = b := if_pos h
theorem mx_r {a b : Int} (h : ¬ a < b) : mx a b = a := if_neg h
theorem sdhull_any (p1 p2 q1 q2 : Int) (w : World) :
    Calls Try.prog 71 #[.agg #[.int .i64 p1, .int .i64 p2], .agg #[.int .i64 q1, .int .i64 q2]] w fun e w' => e = .returned (.agg #[.int .i64 (mn p1 q1), .int .i64 (mx p2 q2)]) ∧ Below w.heap.size w w' := by
  by_cases c1 : q1 < p1 <;> by_cases c2 : p2 < q2
  all_goals (first | rw [mn_l c1] | rw [mn_r c1])
  all_goals (first | rw [mx_l c2] | rw [mx_r c2])
  all_goals go_enter Try.func71, Try.ntmps71
  all_goals go_wp2
  all_goals first
    | exact bodyPost_ret (v := .agg #[.int .i64 q1, .int .i64 q2]) (by simp [results, Try.results71, go_sem]) rfl ⟨rfl, al (al (al1 _ _) _) _⟩
    | exact bodyPost_ret (v := .agg #[.int .i64 q1, .int .i64 p2]) (by simp [results, Try.results71, go_sem]) rfl ⟨rfl, al (al (al1 _ _) _) _⟩
    | exact bodyPost_ret (v := .agg #[.int .i64 p1, .int .i64 q2]) (by simp [results, Try.results71, go_sem]) rfl ⟨rfl, al (al (al1 _ _) _) _⟩
    | exact bodyPost_ret (v := .agg #[.int .i64 p1, .int .i64 p2]) (by simp [results, Try.results71, go_sem]) rfl ⟨rfl, al (al (al1 _ _) _) _⟩
def conS (p1 p2 q1 q2 : Int) : Bool := decide (p1 ≤ q1) && decide (q2 ≤ p2)
theorem sdcon_any (p1 p2 q1 q2 : Int) (w : World) :
    Calls Try.prog 67 #[.agg #[.int .i64 p1, .int .i64 p2], .agg #[.int .i64 q1, .int .i64 q2]] w fun e w' => e = .returned (.bool (conS p1 p2 q1 q2)) ∧ Below w.heap.size w w' := by
  unfold conS
  go_enter Try.func67, Try.ntmps67
  go_wp2
  all_goals go_ret
  all_goals refine ⟨?_, al (al1 _ _) _⟩
  all_goals simp_all
  all_goals omega
end Go.Proofs.Ytkgaahmehmbfjaa
namespace Go.Proofs.Ytkgaahmehmbfjaa
open Go.ChangeShapes Go.WideShapes Go.ChangeAt Go.RowKit
set_option linter.unusedVariables false
set_option linter.unusedSimpArgs false

theorem six0 (a b c d e f : Int) (w : World) : Sem.run Try.prog (Instr.index 97 (.agg #[.int .i64 a, .int .i64 b, .int .i64 c, .int .i64 d, .int .i64 e, .int .i64 f]) (.int .i64 0)) w = .ok (.agg #[.int .i64 a, .int .i64 b]) w := by
  simp [Instr.index, go_sem, Try.underlying97]
theorem six1 (a b c d e f : Int) (w : World) : Sem.run Try.prog (Instr.index 97 (.agg #[.int .i64 a, .int .i64 b, .int .i64 c, .int .i64 d, .int .i64 e, .int .i64 f]) (.int .i64 1)) w = .ok (.agg #[.int .i64 c, .int .i64 d]) w := by
  simp [Instr.index, go_sem, Try.underlying97]
theorem six2 (a b c d e f : Int) (w : World) : Sem.run Try.prog (Instr.index 97 (.agg #[.int .i64 a, .int .i64 b, .int .i64 c, .int .i64 d, .int .i64 e, .int .i64 f]) (.int .i64 2)) w = .ok (.agg #[.int .i64 e, .int .i64 f]) w := by
  simp [Instr.index, go_sem, Try.underlying97]
def vB (a b c d e f : Int) : Bool := sdV a d && sdV b e && sdV c f
set_option maxHeartbeats 4000000 in
set_option maxRecDepth 100000 in
theorem valid_any (a b c d e f : Int) (w : World) :
    Calls Try.prog 46 #[.agg #[.int .i64 a, .int .i64 b, .int .i64 c, .int .i64 d, .int .i64 e, .int .i64 f]] w fun E w' => E = .returned (.bool (vB a b c d e f)) ∧ Below w.heap.size w w' := by
  have h1 := fun W => sides_any a b c d e f W
  have k0 := fun W => sdvalid_any a d W
  have k1 := fun W => sdvalid_any b e W
  have k2 := fun W => sdvalid_any c f W
  unfold vB
  generalize sdV a d = x at *
  generalize sdV b e = y at *
  generalize sdV c f = z at *
  have B0 := al1 w (.cells (C6 a b c d e f) 30)
  go_enter Try.func46, Try.ntmps46
  go_wp2_with (go_at_call 66; (with_reducible refine (h1 _).mono ?_); rintro X w1 ⟨rfl, hb⟩; replace B0 := belows B0 hb; clear hb h1)
  go_loopw [7] (fun v wr => ∃ i : Nat, v = .int .i64 (i : Int) ∧ i ≤ 3 ∧ Below w.heap.size w wr ∧ (0 < i → x = true) ∧ (1 < i → y = true) ∧ (2 < i → z = true)) (fun v _ => 3 - (intOf v).toNat)
  case atStart => exact ⟨0, rfl, by omega, B0, by omega, by omega, by omega⟩
  case round =>
    clear B0
    obtain ⟨i, rfl, hi, B, hx, hy, hz⟩ := hrel
    rcases (by omega : i = 0 ∨ i = 1 ∨ i = 2 ∨ i = 3) with rfl | rfl | rfl | rfl
    · clear hx hy hz
      have ix := fun W => six0 a d b e c f W
      cases x
      · go_wp2_with (go_at_call 72; (with_reducible refine (k0 _).mono ?_); rintro X w2 ⟨rfl, hb⟩; replace B := belows (al B _) hb; clear hb)
        go_ret
        exact ⟨rfl, B⟩
      · go_wp2_with (go_at_call 72; (with_reducible refine (k0 _).mono ?_); rintro X w2 ⟨rfl, hb⟩; replace B := belows (al B _) hb; clear hb)
        exact ⟨⟨1, rfl, by omega, B, by simp, by simp, by simp⟩, by simp [intOf]⟩
    · have e := hx (by omega); subst e
      clear hx hy hz
      have ix := fun W => six1 a d b e c f W
      cases y
      · go_wp2_with (go_at_call 72; (with_reducible refine (k1 _).mono ?_); rintro X w2 ⟨rfl, hb⟩; replace B := belows (al B _) hb; clear hb)
        go_ret
        exact ⟨rfl, B⟩
      · go_wp2_with (go_at_call 72; (with_reducible refine (k1 _).mono ?_); rintro X w2 ⟨rfl, hb⟩; replace B := belows (al B _) hb; clear hb)
        exact ⟨⟨2, rfl, by omega, B, by simp, by simp, by simp⟩, by simp [intOf]⟩
    · have e := hx (by omega); subst e
      have e := hy (by omega); subst e
      clear hx hy hz
      have ix := fun W => six2 a d b e c f W
      cases z
      · go_wp2_with (go_at_call 72; (with_reducible refine (k2 _).mono ?_); rintro X w2 ⟨rfl, hb⟩; replace B := belows (al B _) hb; clear hb)
        go_ret
        exact ⟨rfl, B⟩
      · go_wp2_with (go_at_call 72; (with_reducible refine (k2 _).mono ?_); rintro X w2 ⟨rfl, hb⟩; replace B := belows (al B _) hb; clear hb)
        exact ⟨⟨3, rfl, by omega, B, by simp, by simp, by simp⟩, by simp [intOf]⟩
    · have e := hx (by omega); subst e
      have e := hy (by omega); subst e
      have e := hz (by omega); subst e
      clear hx hy hz
      go_wp2
      go_ret
      exact ⟨rfl, B⟩
end Go.Proofs.Ytkgaahmehmbfjaa
namespace Go.Proofs.Ytkgaahmehmbfjaa
open Go.ChangeShapes Go.WideShapes Go.ChangeAt Go.RowKit
set_option linter.unusedVariables false
set_option linter.unusedSimpArgs false

structure Bx where
  a : Int
  b : Int
  c : Int
  d : Int
  e : Int
  f : Int
deriving DecidableEq
def Bx.val (x : Bx) : Value := .agg #[.int .i64 x.a, .int .i64 x.b, .int .i64 x.c, .int .i64 x.d, .int .i64 x.e, .int .i64 x.f]
def Bx.ok (x : Bx) : Bool := vB x.a x.b x.c x.d x.e x.f
theorem lt_of_cell {w : World} {a : Addr} {v : Value} (h : w.cell? a = some v) : a.block < w.heap.size := by
  rcases Nat.lt_or_ge a.block w.heap.size with k | k
  · exact k
  · rw [World.cell?, Array.getElem?_eq_none k] at h; cases h
theorem cell_later {w w1 : World} (hb : Below w.heap.size w w1) {a : Addr} {v : Value} (h : w.cell? a = some v) : w1.cell? a = some v := by
  rw [hb.cell (lt_of_cell h)]; exact h
/-- The boxes that lie in a row of cells. -/
def Fr6 (w : World) (a : Addr) (l : List Bx) : Prop := ∀ i (h : i < l.length), w.cell? (a.add (i * 6)) = some (.int .i64 l[i].a) ∧ w.cell? ⟨(a.add (i * 6)).block, (a.add (i * 6)).off + 1, none⟩ = some (.int .i64 l[i].b) ∧ w.cell? ⟨(a.add (i * 6)).block, (a.add (i * 6)).off + 2, none⟩ = some (.int .i64 l[i].c) ∧ w.cell? ⟨(a.add (i * 6)).block, (a.add (i * 6)).off + 3, none⟩ = some (.int .i64 l[i].d) ∧ w.cell? ⟨(a.add (i * 6)).block, (a.add (i * 6)).off + 4, none⟩ = some (.int .i64 l[i].e) ∧ w.cell? ⟨(a.add (i * 6)).block, (a.add (i * 6)).off + 5, none⟩ = some (.int .i64 l[i].f)
theorem Fr6.on {w w1 : World} {a : Addr} {l : List Bx} (h : Fr6 w a l) (hb : Below w.heap.size w w1) : Fr6 w1 a l := fun i hi => by
  obtain ⟨h0, h1, h2, h3, h4, h5⟩ := h i hi
  exact ⟨cell_later hb h0, cell_later hb h1, cell_later hb h2, cell_later hb h3, cell_later hb h4, cell_later hb h5⟩
/-- A slice of boxes, nil or not. -/
def Sl (w : World) (p : Option Addr) (l : List Bx) : Prop := (p = none → l = []) ∧ (∀ a, p = some a → Fr6 w a l) ∧ l.length ≤ maxLen
theorem Sl.on {w w1 : World} {p : Option Addr} {l : List Bx} (h : Sl w p l) (hb : Below w.heap.size w w1) : Sl w1 p l := ⟨h.1, fun a ha => (h.2.1 a ha).on hb, h.2.2⟩
theorem Sl.at {w : World} {p : Option Addr} {l : List Bx} (h : Sl w p l) {k : Nat} (hk : k < l.length) : ∃ a, p = some a ∧ w.cell? (a.add (k * 6)) = some (.int .i64 l[k].a) ∧ w.cell? ⟨(a.add (k * 6)).block, (a.add (k * 6)).off + 1, none⟩ = some (.int .i64 l[k].b) ∧ w.cell? ⟨(a.add (k * 6)).block, (a.add (k * 6)).off + 2, none⟩ = some (.int .i64 l[k].c) ∧ w.cell? ⟨(a.add (k * 6)).block, (a.add (k * 6)).off + 3, none⟩ = some (.int .i64 l[k].d) ∧ w.cell? ⟨(a.add (k * 6)).block, (a.add (k * 6)).off + 4, none⟩ = some (.int .i64 l[k].e) ∧ w.cell? ⟨(a.add (k * 6)).block, (a.add (k * 6)).off + 5, none⟩ = some (.int .i64 l[k].f) := by
  cases p with
  | none => rw [h.1 rfl] at hk; simp at hk
  | some a => exact ⟨a, rfl, h.2.1 a rfl k hk⟩
theorem bad_any (x : Bx) (w : World) :
    Calls Try.prog 96 #[x.val] w fun e w' => e = .returned (.bool (!x.ok)) ∧ Below w.heap.size w w' := by
  unfold Bx.val Bx.ok
  have h := fun W => valid_any x.a x.b x.c x.d x.e x.f W
  have b0 := al1 w (.cells (C6 x.a x.b x.c x.d x.e x.f) 30)
  go_enter Try.func96, Try.ntmps96
  go_wp2_with (go_at_call 46; (with_reducible refine (h _).mono ?_); rintro e w1 ⟨rfl, hb⟩; replace b0 := belows b0 hb; clear hb)
  go_ret
  exact ⟨rfl, b0⟩
theorem all_drop {l : List Bx} {k : Nat} (hk : k < l.length) (h : ∀ x ∈ l.take k, x.ok = true) (hv : l[k].ok = true) : ∀ x ∈ l.take (k + 1), x.ok = true := by
  intro x hx
  rw [List.take_succ_eq_append_getElem hk, List.mem_append] at hx
  rcases hx with hx | hx
  · exact h x hx
  · rw [List.mem_singleton.1 hx]; exact hv
set_option maxRecDepth 100000 in
theorem idx_any (p : Option Addr) (l : List Bx) (cap : Nat) (w : World) (hS : Sl w p l) :
    Calls Try.prog 74 #[.slice p l.length cap, .func (.func 96) #[] #[]] w fun e w' => ∃ i : Int, e = .returned (.int .i64 i) ∧ decide (0 ≤ i) = !l.all Bx.ok ∧ Below w.heap.size w w' := by
  have hm := hS.2.2
  unfold maxLen at hm
  go_enter Try.func74, Try.ntmps74
  go_wp2
  go_loopw [8] (fun v wr => ∃ k : Nat, v = .int .i64 k ∧ k ≤ l.length ∧ Hid (∀ x ∈ l.take k, x.ok = true) ∧ Below w.heap.size w wr) (fun v _ => l.length - (intOf v).toNat)
  case atStart => exact ⟨0, rfl, Nat.zero_le _, Lib.hid (by simp), Below.refl _ _⟩
  case round =>
    obtain ⟨k, rfl, hk, hG, hB⟩ := hrel
    by_cases hlt : k < l.length
    · have g1 : decide ((k : Int) < (l.length : Int)) = true := by simp [hlt]
      obtain ⟨a, rfl, c0, c1, c2, c3, c4, c5⟩ := (hS.on hB).at hlt
      have W1 : IntKind.i64.wrap ((k : Int) + 1) = ((k + 1 : Nat) : Int) := by rw [IntWalk.i64_in _ (by omega)]; omega
      have hb := fun w => bad_any l[k] w
      unfold Bx.val at hb
      cases hv : l[k].ok
      · have e : l.all Bx.ok = false := List.all_eq_false.2 ⟨_, List.getElem_mem hlt, by simp [hv]⟩
        simp only [hv, Bool.not_false] at hb
        go_wp2_with (go_at_call 96; (with_reducible refine (hb _).mono ?_); rintro e1 w1 ⟨rfl, hb1⟩)
        go_ret
        exact ⟨_, rfl, by rw [e]; simp, belows hB hb1⟩
      · simp only [hv, Bool.not_true] at hb
        go_wp2_with (go_at_call 96; (with_reducible refine (hb _).mono ?_); rintro e1 w1 ⟨rfl, hb1⟩)
        exact ⟨⟨k + 1, rfl, hlt, Lib.hid (all_drop hlt hG.out hv), belows hB hb1⟩, by simp [intOf]; omega⟩
    · have g1 : decide ((k : Int) < (l.length : Int)) = false := by simp; omega
      go_wp2
      go_ret
      have := hG.out
      rw [List.take_of_length_le (by omega)] at this
      have e : l.all Bx.ok = true := List.all_eq_true.2 this
      exact ⟨-1, rfl, by rw [e]; rfl, hB⟩
theorem has_any (p : Option Addr) (l : List Bx) (cap : Nat) (w : World) (hS : Sl w p l) :
    Calls Try.prog 48 #[.slice p l.length cap, .func (.func 96) #[] #[]] w fun e w' => e = .returned (.bool (!l.all Bx.ok)) ∧ Below w.heap.size w w' := by
  go_enter Try.func48, Try.ntmps48
  go_wp2_with (go_at_call 74; (with_reducible refine (idx_any p l cap _ hS).mono ?_); rintro e1 w1 ⟨i, rfl, hi, hb1⟩)
  go_ret
  exact ⟨rfl, hb1⟩
theorem allvalid_any (p : Option Addr) (l : List Bx) (cap : Nat) (w : World) (hS : Sl w p l) :
    Calls Try.prog 69 #[.slice p l.length cap] w fun e w' => e = .returned (.bool (l.all Bx.ok)) ∧ Below w.heap.size w w' := by
  go_enter Try.func69, Try.ntmps69
  go_wp2_with (go_at_call 48; (with_reducible refine (has_any p l cap _ hS).mono ?_); rintro e1 w1 ⟨rfl, hb1⟩)
  go_ret
  exact ⟨by simp, hb1⟩
end Go.Proofs.Ytkgaahmehmbfjaa
namespace Go.Proofs.Ytkgaahmehmbfjaa
open Go.ChangeShapes Go.WideShapes Go.ChangeAt Go.RowKit
set_option linter.unusedVariables false
set_option linter.unusedSimpArgs false

abbrev S2 := Int × Int
def zc (z : Int) : List Value := [.int .i64 z]
def sc (p : S2) : List Value := [.int .i64 p.1, .int .i64 p.2]
def tc (x : Bx) : List Value := [.int .i64 x.a, .int .i64 x.d, .int .i64 x.b, .int .i64 x.e, .int .i64 x.c, .int .i64 x.f]
def uc (n : Nat) : List Value := [.int .u64 (n : Int)]
theorem flat_len {α : Type} (f : α → List Value) (s : Nat) (hf : ∀ x, (f x).length = s) : ∀ l : List α, (l.flatMap f).length = l.length * s
  | [] => by simp
  | x :: l => by rw [List.flatMap_cons, List.length_append, hf, flat_len f s hf l, List.length_cons, Nat.succ_mul]; omega
theorem flat_at {α : Type} (f : α → List Value) (s : Nat) (hf : ∀ x, (f x).length = s) : ∀ (l : List α) (k : Nat) (hk : k < l.length) (j : Nat), j < s → (l.flatMap f)[k * s + j]? = (f l[k])[j]?
  | [], k, hk, _, _ => by simp at hk
  | x :: l, 0, _, j, hj => by
    rw [List.flatMap_cons, List.getElem?_append_left (by rw [hf]; omega)]; simp
  | x :: l, k + 1, hk, j, hj => by
    have h := flat_at f s hf l k (by simpa using hk) j hj
    rw [List.flatMap_cons, List.getElem?_append_right (by rw [hf, Nat.succ_mul]; omega), hf, show (k + 1) * s + j - s = k * s + j by rw [Nat.succ_mul]; omega, h]
    simp
/-- A row of the call's own. -/
def Own {α : Type} (f : α → List Value) (t : TypeId) (s B : Nat) (w : World) (v : Value) (l : List α) : Prop := w.ownsRow B t s v l.length (l.flatMap f)
/-- A row that can be read. -/
def Rd {α : Type} (f : α → List Value) (s : Nat) (w : World) (v : Value) (l : List α) : Prop := ∃ q c, v = .slice q l.length c ∧ ∀ k (h : k < l.length), ∃ g, q = some ⟨g, 0, none⟩ ∧ ∀ j, j < s → w.cell? ⟨g, k * s + j, none⟩ = (f l[k])[j]?
theorem own_on {B : Nat} {w w' : World} {v : Value} {n : Nat} {e : TypeId} {s : Nat} {xs : List Value} (h : w.ownsRow B e s v n xs) (hb : Below w.heap.size w w') : w'.ownsRow B e s v n xs := by
  have k := h.lt
  obtain ⟨hl, h0 | ⟨g, cap, cur, rfl, hB, hg, r⟩⟩ := h
  · exact ⟨hl, .inl h0⟩
  · have := k g rfl
    exact ⟨hl, .inr ⟨g, cap, cur, rfl, hB, by rw [hb.block g this.2]; exact hg, r⟩⟩
theorem own_at {B g : Nat} {w w' : World} {v : Value} {n : Nat} {e : TypeId} {s : Nat} {xs : List Value} (h : w.ownsRow B e s v n xs) (hb : At g w w') (hg : v.ownBlock ≠ some g) : w'.ownsRow B e s v n xs := by
  obtain ⟨hl, h0 | ⟨g', cap, cur, rfl, hB, hc, r⟩⟩ := h
  · exact ⟨hl, .inl h0⟩
  · have : g' ≠ g := fun e => hg (by rw [e]; rfl)
    exact ⟨hl, .inr ⟨g', cap, cur, rfl, hB, by rw [hb.block g' this]; exact hc, r⟩⟩
theorem Own.on {α : Type} {f : α → List Value} {t : TypeId} {s B : Nat} {w w' : World} {v : Value} {l : List α} (h : Own f t s B w v l) (hb : Below w.heap.size w w') : Own f t s B w' v l := own_on h hb
theorem Own.mono {α : Type} {f : α → List Value} {t : TypeId} {s B B' : Nat} {w : World} {v : Value} {l : List α} (h : Own f t s B w v l) (hB : B' ≤ B) : Own f t s B' w v l := by
  obtain ⟨hl, h0 | ⟨g, cap, cur, rfl, hg, r⟩⟩ := h
  · exact ⟨hl, .inl h0⟩
  · exact ⟨hl, .inr ⟨g, cap, cur, rfl, Nat.le_trans hB hg, r⟩⟩
theorem Own.rd {α : Type} {f : α → List Value} {t : TypeId} {s B : Nat} {w : World} {v : Value} {l : List α} (hf : ∀ x, (f x).length = s) (h : Own f t s B w v l) : Rd f s w v l := by
  rcases Nat.eq_zero_or_pos l.length with h0 | h0
  · obtain ⟨hl, ⟨rfl, -⟩ | ⟨g, cap, cur, rfl, -⟩⟩ := h
    · exact ⟨none, 0, by rw [h0], fun k hk => by omega⟩
    · exact ⟨_, cap, rfl, fun k hk => by omega⟩
  · obtain ⟨hl, ⟨rfl, hn⟩ | ⟨g, cap, cur, rfl, hB, hg, hn, hm, hs, ht⟩⟩ := h
    · omega
    · refine ⟨_, cap, rfl, fun k hk => ⟨g, rfl, fun j hj => ?_⟩⟩
      have hi : k * s + j < l.length * s := by
        have : (k + 1) * s ≤ l.length * s := Nat.mul_le_mul_right s hk
        rw [Nat.succ_mul] at this; omega
      rw [cell_of_row w g _ cur t (0, 0) hg, ← flat_at f s hf l k hk j hj, ← ht, List.getElem?_take_of_lt hi, Array.getElem?_toList]
theorem Rd.on {α : Type} {f : α → List Value} {s : Nat} {w w' : World} {v : Value} {l : List α} (hf : ∀ x, (f x).length = s) (h : Rd f s w v l) (hb : Below w.heap.size w w') : Rd f s w' v l := by
  obtain ⟨q, c, rfl, k⟩ := h
  refine ⟨q, c, rfl, fun i hi => ?_⟩
  obtain ⟨g, e, hc⟩ := k i hi
  refine ⟨g, e, fun j hj => ?_⟩
  have hc1 := hc j hj
  have hl : j < (f l[i]).length := by rw [hf]; exact hj
  rw [List.getElem?_eq_getElem hl] at hc1 ⊢
  exact cell_later hb hc1
theorem zl (z : Int) : (zc z).length = 1 := rfl
theorem sl (p : S2) : (sc p).length = 2 := rfl
theorem tl (x : Bx) : (tc x).length = 6 := rfl
theorem ul (n : Nat) : (uc n).length = 1 := rfl
theorem Rd.z {w : World} {v : Value} {l : List Int} (h : Rd zc 1 w v l) : ∃ q c, v = .slice q l.length c ∧ ∀ k (h : k < l.length), ∃ g, q = some ⟨g, 0, none⟩ ∧ w.cell? ⟨g, k, none⟩ = some (.int .i64 l[k]) := by
  obtain ⟨q, c, e, h⟩ := h
  refine ⟨q, c, e, fun k hk => ?_⟩
  obtain ⟨g, e, hc⟩ := h k hk
  exact ⟨g, e, by have := hc 0 (by omega); simpa [zc] using this⟩
theorem Rd.u {w : World} {v : Value} {l : List Nat} (h : Rd uc 1 w v l) : ∃ q c, v = .slice q l.length c ∧ ∀ k (h : k < l.length), ∃ g, q = some ⟨g, 0, none⟩ ∧ w.cell? ⟨g, k, none⟩ = some (.int .u64 (l[k] : Nat)) := by
  obtain ⟨q, c, e, h⟩ := h
  refine ⟨q, c, e, fun k hk => ?_⟩
  obtain ⟨g, e, hc⟩ := h k hk
  exact ⟨g, e, by have := hc 0 (by omega); simpa [uc] using this⟩
theorem Rd.s {w : World} {v : Value} {l : List S2} (h : Rd sc 2 w v l) : ∃ q c, v = .slice q l.length c ∧ ∀ k (h : k < l.length), ∃ g, q = some ⟨g, 0, none⟩ ∧ w.cell? ⟨g, k * 2, none⟩ = some (.int .i64 l[k].1) ∧ w.cell? ⟨g, k * 2 + 1, none⟩ = some (.int .i64 l[k].2) := by
  obtain ⟨q, c, e, h⟩ := h
  refine ⟨q, c, e, fun k hk => ?_⟩
  obtain ⟨g, e, hc⟩ := h k hk
  exact ⟨g, e, by have := hc 0 (by omega); simpa [sc] using this, by have := hc 1 (by omega); simpa [sc] using this⟩
theorem Rd.t {w : World} {v : Value} {l : List Bx} (h : Rd tc 6 w v l) : ∃ q c, v = .slice q l.length c ∧ ∀ k (h : k < l.length), ∃ g, q = some ⟨g, 0, none⟩ ∧ w.cell? ⟨g, k * 6, none⟩ = some (.int .i64 l[k].a) ∧ w.cell? ⟨g, k * 6 + 1, none⟩ = some (.int .i64 l[k].d)
    ∧ w.cell? ⟨g, k * 6 + 2, none⟩ = some (.int .i64 l[k].b) ∧ w.cell? ⟨g, k * 6 + 3, none⟩ = some (.int .i64 l[k].e) ∧ w.cell? ⟨g, k * 6 + 4, none⟩ = some (.int .i64 l[k].c) ∧ w.cell? ⟨g, k * 6 + 5, none⟩ = some (.int .i64 l[k].f) := by
  obtain ⟨q, c, e, h⟩ := h
  refine ⟨q, c, e, fun k hk => ?_⟩
  obtain ⟨g, e, hc⟩ := h k hk
  exact ⟨g, e, by have := hc 0 (by omega); simpa [tc] using this, by have := hc 1 (by omega); simpa [tc] using this, by have := hc 2 (by omega); simpa [tc] using this, by have := hc 3 (by omega); simpa [tc] using this, by have := hc 4 (by omega); simpa [tc] using this, by have := hc 5 (by omega); simpa [tc] using this⟩
/-- The sides that contain a part, as bits. -/
def cn (o p : S2) : Bool := conS o.1 o.2 p.1 p.2
def hmk (os : List S2) (p : S2) : Nat → Nat
  | 0 => 0
  | k + 1 => if cn (os.getD k (0, 0)) p then hmk os p k ||| 2 ^ k else hmk os p k
theorem hmk_lt (os : List S2) (p : S2) : ∀ k, hmk os p k < 2 ^ k
  | 0 => by simp [hmk]
  | k + 1 => by
    have h := hmk_lt os p k
    have h2 : (2 : Nat) ^ k < 2 ^ (k + 1) := by rw [Nat.pow_succ]; have := Nat.two_pow_pos k; omega
    unfold hmk
    split
    · exact Nat.or_lt_two_pow (Nat.lt_trans h h2) h2
    · exact Nat.lt_trans h h2
theorem hmk_bit (os : List S2) (p : S2) (j : Nat) : ∀ k, (hmk os p k).testBit j = (decide (j < k) && cn (os.getD j (0, 0)) p)
  | 0 => by simp [hmk]
  | k + 1 => by
    have h := hmk_bit os p j k
    unfold hmk
    split
    · rename_i hc
      rw [Nat.testBit_or, h, Nat.testBit_two_pow]
      by_cases e : k = j
      · subst e
        have hc' := hc
        simp only [List.getD_eq_getElem?_getD] at hc' ⊢
        simp [hc']
      · rw [show decide (j < k + 1) = decide (j < k) by simp only [decide_eq_decide]; omega]; simp [e]
    · rename_i hc
      rw [h]
      by_cases e : k = j
      · subst e
        have hc' := hc
        simp only [List.getD_eq_getElem?_getD] at hc' ⊢
        simp [hc']
      · rw [show decide (j < k + 1) = decide (j < k) by simp only [decide_eq_decide]; omega]
end Go.Proofs.Ytkgaahmehmbfjaa
namespace Go.Proofs.Ytkgaahmehmbfjaa
open Go.ChangeShapes Go.WideShapes Go.ChangeAt Go.RowKit
set_option linter.unusedVariables false
set_option linter.unusedSimpArgs false

theorem two_lt {k : Nat} (h : k < 40) : (2 : Nat) ^ k < 18446744073709551616 := by
  have : (2 : Nat) ^ k ≤ 2 ^ 40 := Nat.pow_le_pow_right (by decide) (by omega)
  omega
theorem hmk_small (os : List S2) (p : S2) {k : Nat} (h : k ≤ 40) : hmk os p k < 18446744073709551616 := by
  have h1 := hmk_lt os p k
  have : (2 : Nat) ^ k ≤ 2 ^ 40 := Nat.pow_le_pow_right (by decide) h
  omega
set_option maxRecDepth 100000 in
theorem holding_any (v : Value) (os : List S2) (p : S2) (w : World) (hR : Rd sc 2 w v os) (hl : os.length ≤ 40) :
    Calls Try.prog 113 #[v, .agg #[.int .i64 p.1, .int .i64 p.2]] w fun e w' => e = .returned (.int .u64 (hmk os p os.length : Nat)) ∧ Below w.heap.size w w' := by
  obtain ⟨q, c, rfl, hC⟩ := hR.s
  have hP := Has.new_ w 96 #[.int .i64 p.1, .int .i64 p.2]
  have hB0 := al1 w (.cells #[.int .i64 p.1, .int .i64 p.2] 96)
  go_enter Try.func113, Try.ntmps113
  go_wp2
  go_loopw [5, 10] (fun v5 v10 wr => ∃ k : Nat, v10 = .int .i64 k ∧ k ≤ os.length ∧ v5 = .int .u64 (hmk os p k : Nat) ∧ Has wr w.heap.size 96 #[.int .i64 p.1, .int .i64 p.2] ∧ Below w.heap.size w wr) (fun _ v _ => os.length - (intOf v).toNat)
  case atStart => exact ⟨0, rfl, Nat.zero_le _, rfl, hP, hB0⟩
  case round =>
    clear hP hB0
    obtain ⟨k, rfl, hk, rfl, hP, hB⟩ := hrel
    by_cases hlt : k < os.length
    · have g1 : decide ((k : Int) < (os.length : Int)) = true := by simp [hlt]
      obtain ⟨g, rfl, c0, c1⟩ := hC k hlt
      have d0 := cell_later hB c0
      have d1 := cell_later hB c1
      have p0 := hP.read 0
      have p1 := hP.read 1
      simp at p0 p1
      have hz := hP.size_
      have hz2 : ¬ w.heap.size = wr.heap.size := by omega
      have hz3 : ¬ wr.heap.size = w.heap.size := by omega
      have hP1 := hP.on (al1 wr (.cells #[.int .i64 os[k].1, .int .i64 os[k].2] 96))
      have hB1 := al hB (.cells #[.int .i64 os[k].1, .int .i64 os[k].2] 96)
      have W1 : IntKind.i64.wrap ((k : Int) + 1) = ((k + 1 : Nat) : Int) := by rw [IntWalk.i64_in _ (by omega)]; omega
      have h := fun w => sdcon_any os[k].1 os[k].2 p.1 p.2 w
      have e : os.getD k (0, 0) = os[k] := by simp [hlt]
      clear hC
      cases hv : cn os[k] p
      · have e2 : hmk os p (k + 1) = hmk os p k := by rw [hmk, e, hv]; simp
        unfold cn at hv
        rw [hv] at h
        go_wp2_with (go_at_call 67; (with_reducible refine (h _).mono ?_); rintro X w1 ⟨rfl, hb⟩)
        exact ⟨⟨k + 1, rfl, hlt, by rw [e2], hP1.on hb, belows hB1 hb⟩, by simp [intOf]; omega⟩
      · have e2 : hmk os p (k + 1) = hmk os p k ||| 2 ^ k := by rw [hmk, e, hv]; simp
        have hs := hmk_small os p (k := k) (by omega)
        have ht := two_lt (k := k) (by omega)
        have e3 : (2 : Int) ^ k = ((2 ^ k : Nat) : Int) := by simp
        have W3 : IntKind.u64.wrap ((2 : Int) ^ k) = (2 : Int) ^ k := by
          rw [e3]
          generalize (2 : Nat) ^ k = m at ht
          exact IntWalk.u64_in _ (by omega)
        have W2 : bits .or .u64 ((hmk os p k : Nat) : Int) ((2 ^ k : Nat) : Int) = ((hmk os p (k + 1) : Nat) : Int) := by rw [e2]; exact bits_or_u64_nat _ _ hs (two_lt (by omega))
        have E3 := Lib.hid e3
        unfold cn at hv
        rw [hv] at h
        clear e3
        go_wp2_with (go_at_call 67; (with_reducible refine (h _).mono ?_); rintro X w1 ⟨rfl, hb⟩)
        exact ⟨⟨k + 1, rfl, hlt, by rw [E3.out, W2], hP1.on hb, belows hB1 hb⟩, by simp [intOf]; omega⟩
    · have g1 : decide ((k : Int) < (os.length : Int)) = false := by simp; omega
      have e : k = os.length := by omega
      subst e
      go_wp2
      go_ret
      exact ⟨rfl, hB⟩
end Go.Proofs.Ytkgaahmehmbfjaa
namespace Go.Proofs.Ytkgaahmehmbfjaa
open Go.ChangeShapes Go.WideShapes Go.ChangeAt Go.RowKit
set_option linter.unusedVariables false
set_option linter.unusedSimpArgs false

section
variable {w W : World} {l : List Fb} {A B : Array Value} {g k : Nat} {t : TypeId} {z0 z1 z2 z3 z4 z5 y0 y1 y2 y3 y4 y5 u0 u1 u2 u3 u4 u5 v0 v1 v2 v3 v4 v5 : Value}
theorem tw1 (E : Env w W l) : Env w ((W.alloc (.cells A t)).alloc (.cells B t)) (⟨W.heap.size + 1, t, B⟩ :: ⟨W.heap.size, t, A⟩ :: l) := (E.add _ t A rfl).add _ t B (sz1 rfl)
theorem tw2 (E : Env w W l) : Env w ((W.alloc (.cells B t)).alloc (.cells A t)) (⟨W.heap.size, t, B⟩ :: ⟨W.heap.size + 1, t, A⟩ :: l) := ((E.add _ t B rfl).add _ t A (sz1 rfl)).swap
theorem tw3 (E : Env w W (⟨g, t, #[z0, z1, z2, z3, z4, z5]⟩ :: l)) : Env w (((((((W.setCell ⟨g, 0, none⟩ u0).setCell ⟨g, 1, none⟩ u1).setCell ⟨g, 2, none⟩ u2).setCell ⟨g, 3, none⟩ u3).setCell ⟨g, 4, none⟩ u4).setCell ⟨g, 5, none⟩ u5).alloc (.cells B t)) (⟨W.heap.size, t, B⟩ :: ⟨g, t, #[u0, u1, u2, u3, u4, u5]⟩ :: l) := by
  have h := (E.six (u0 := u0) (u1 := u1) (u2 := u2) (u3 := u3) (u4 := u4) (u5 := u5) 0 rfl).add W.heap.size t B (by simp [numB])
  exact h
theorem tw4 (E : Env w W (⟨k, t, #[z0, z1, z2, z3, z4, z5]⟩ :: l)) : Env w (((((((W.setCell ⟨k, 0, none⟩ u0).setCell ⟨k, 1, none⟩ u1).setCell ⟨k, 2, none⟩ u2).setCell ⟨k, 3, none⟩ u3).setCell ⟨k, 4, none⟩ u4).setCell ⟨k, 5, none⟩ u5).alloc (.cells A t)) (⟨k, t, #[u0, u1, u2, u3, u4, u5]⟩ :: ⟨W.heap.size, t, A⟩ :: l) := (tw3 E).swap
theorem tw5 (E : Env w W (⟨k, t, #[z0, z1, z2, z3, z4, z5]⟩ :: l)) : Env w (((((((W.alloc (.cells A t)).setCell ⟨k, 0, none⟩ u0).setCell ⟨k, 1, none⟩ u1).setCell ⟨k, 2, none⟩ u2).setCell ⟨k, 3, none⟩ u3).setCell ⟨k, 4, none⟩ u4).setCell ⟨k, 5, none⟩ u5) (⟨k, t, #[u0, u1, u2, u3, u4, u5]⟩ :: ⟨W.heap.size, t, A⟩ :: l) := by
  have h := (E.add W.heap.size t A rfl).swap.six (u0 := u0) (u1 := u1) (u2 := u2) (u3 := u3) (u4 := u4) (u5 := u5) 0 rfl
  exact h
theorem tw6 (E : Env w W (⟨g, t, #[z0, z1, z2, z3, z4, z5]⟩ :: ⟨k, t, #[y0, y1, y2, y3, y4, y5]⟩ :: l)) : Env w ((((((((((((W.setCell ⟨g, 0, none⟩ u0).setCell ⟨g, 1, none⟩ u1).setCell ⟨g, 2, none⟩ u2).setCell ⟨g, 3, none⟩ u3).setCell ⟨g, 4, none⟩ u4).setCell ⟨g, 5, none⟩ u5).setCell ⟨k, 0, none⟩ v0).setCell ⟨k, 1, none⟩ v1).setCell ⟨k, 2, none⟩ v2).setCell ⟨k, 3, none⟩ v3).setCell ⟨k, 4, none⟩ v4).setCell ⟨k, 5, none⟩ v5) (⟨k, t, #[v0, v1, v2, v3, v4, v5]⟩ :: ⟨g, t, #[u0, u1, u2, u3, u4, u5]⟩ :: l) := by
  have h := ((E.six (u0 := u0) (u1 := u1) (u2 := u2) (u3 := u3) (u4 := u4) (u5 := u5) 0 rfl).six (u0 := v0) (u1 := v1) (u2 := v2) (u3 := v3) (u4 := v4) (u5 := v5) 1 rfl).swap
  exact h
theorem tw7 (E : Env w W (⟨k, t, #[y0, y1, y2, y3, y4, y5]⟩ :: ⟨g, t, #[z0, z1, z2, z3, z4, z5]⟩ :: l)) : Env w ((((((((((((W.setCell ⟨g, 0, none⟩ u0).setCell ⟨g, 1, none⟩ u1).setCell ⟨g, 2, none⟩ u2).setCell ⟨g, 3, none⟩ u3).setCell ⟨g, 4, none⟩ u4).setCell ⟨g, 5, none⟩ u5).setCell ⟨k, 0, none⟩ v0).setCell ⟨k, 1, none⟩ v1).setCell ⟨k, 2, none⟩ v2).setCell ⟨k, 3, none⟩ v3).setCell ⟨k, 4, none⟩ v4).setCell ⟨k, 5, none⟩ v5) (⟨k, t, #[v0, v1, v2, v3, v4, v5]⟩ :: ⟨g, t, #[u0, u1, u2, u3, u4, u5]⟩ :: l) := tw6 E.swap
end
end Go.Proofs.Ytkgaahmehmbfjaa
