/- What the walks of this seat keep: blocks, rows of whole numbers, worlds that differ in one block. What a walk keeps: the blocks that it laid, as they are known, the newest first. Points: within a limit, sums, products. Rows of numbers, of sides, of triples of sides and of sets: read, and of a call's own. A region whose order is drawn, gone through in one order: by a plan that says which operation is taken next, either because it yields its value in every world that meets S, or because no other one may come up; the last ones, from n on, wait for all others and come in their order: behind them S need not hold. Points that are read; all of them near. A range over a function whose iterator keeps its state in c cells of its own: the law for the caller. A range over a function whose iterator turns blocks of its own, any number of them, and yields what lies in them: the law for the caller. Of any program. A region whose order is drawn, with variables that are laid at any time in between (free allocs): gone through by a plan of all other operations; behind it the variables lie in blocks of their own, wherever. The plan speaks of every world that meets S, and S abides whatever is laid anew. A region whose order is drawn, inside a round of a range over a function: gone through by a plan. Of any program. strings.Lines: its iterator. Runs, and lists of runs that are read. Points that are moved in place. Maps from strings to values of any kind, as functions. -/
import Derived.Test.YtfkcogocaecodaaRows
import Derived.WalkKit
import Derived.ProofKit
import Derived.OpenShut
import Derived.Deep.QuietTactic
import Derived.BigQuiet
import Derived.Outline
import Derived.IntWalk
import Derived.Lib.Hide
import Derived.Deep.RegionHeld3
import Derived.Deep.AppendLies
import Derived.Laws.OwnMore
import Derived.Laws.Rows
import Derived.Deep.Draws
import Derived.OwnWalk
import Derived.Deep.RegionLaw
import Derived.Deep.DeepCutAuto
import Derived.Deep.LoopGhost
import Derived.Deep.Fields
import Derived.StillTailTactics
import Derived.WalkSpells
import Derived.Maps.AppendAt
import Derived.Deep.CutBlock
import Derived.Laws.Bits64b
import Derived.StillTail
import Derived.OrdersHeld
import Derived.Deep.RegionHeld
import Derived.RangeFuncNested
import Derived.RangeFuncBound
import Derived.RangeFuncCalls
import Derived.RangeFuncLeaves
import Derived.OrdersIn
import Derived.OwnWalkIn
import Derived.LoopIn
import Derived.LoopNIn
import Derived.TacticsInMore
import Derived.Maps.OwnOps
import Derived.Maps.OwnSet
import Derived.Maps.Views
import Derived.ChangeKeys
namespace Go.Proofs.Ytfkcogocaecodaa
open Go.ChangeShapes Go.WideShapes Go.ChangeAt Go.RowKit
set_option linter.unusedVariables false
set_option linter.unusedSimpArgs false

theorem ret_one {k : IntKind} {a b : Int} (h : a = b) : Ending.returned (.int k a) = .returned (.int k b) := by rw [h]
theorem belows {a b c : World} (h1 : Below a.heap.size a b) (h2 : Below b.heap.size b c) : Below a.heap.size a c := h1.trans (h2.mono h1.size)
theorem below_drewN {B : Nat} {a w : World} (h : Below B a w) (n : Nat) : Below B a (w.drewN n) := ⟨h.os, h.tape, h.output, h.size, h.block⟩
theorem al {a w : World} (h : Below a.heap.size a w) (o : Obj) : Below a.heap.size a (w.alloc o) := h.alloc h.size o
theorem al1 (a : World) (o : Obj) : Below a.heap.size a (a.alloc o) := al (Below.refl _ _) o
def I64 (n : Int) : Prop := -9223372036854775808 ≤ n ∧ n ≤ 9223372036854775807

/-- Block g is just these cells, none of them frozen. -/
def Has (w : World) (g : Nat) (t : TypeId) (cs : Array Value) : Prop := w.heap[g]? = some (.cells cs t (0, 0))
theorem Has.size_ {w : World} {g : Nat} {t : TypeId} {cs : Array Value} (h : Has w g t cs) : g < w.heap.size := by
  unfold Has at h
  exact (Array.getElem?_eq_some_iff.1 h).1
theorem Has.read {w : World} {g : Nat} {t : TypeId} {cs : Array Value} (h : Has w g t cs) (i : Nat) : w.cell? ⟨g, i, none⟩ = cs[i]? := cell_of_row w g i cs t (0, 0) h
theorem Has.open_ {w : World} {g : Nat} {t : TypeId} {cs : Array Value} (h : Has w g t cs) (i : Nat) : w.frozen? ⟨g, i, none⟩ = false := by
  simp only [Has] at h; simp [World.frozen?, h]
theorem Has.new_ (w : World) (t : TypeId) (cs : Array Value) : Has (w.alloc (.cells cs t)) w.heap.size t cs := heap_alloc_new w _
theorem Has.drew_ {w : World} {g : Nat} {t : TypeId} {cs : Array Value} (h : Has w g t cs) : Has w.drew g t cs := h
theorem Has.put_ {w : World} {g : Nat} {t : TypeId} {cs : Array Value} (h : Has w g t cs) (i : Nat) (u : Value) : Has (w.setCell ⟨g, i, none⟩ u) g t (cs.setIfInBounds i u) := by
  simp only [Has] at h ⊢; simp [World.setCell, Array.getElem?_modify, h]
theorem Has.apart_ {w : World} {g : Nat} {t : TypeId} {cs : Array Value} (h : Has w g t cs) {p : Addr} (hp : g ≠ p.block) (u : Value) : Has (w.setCell p u) g t cs := by
  unfold Has; rw [Below.heap_setCell w p u g hp]; exact h
theorem Has.on {w w' : World} {g : Nat} {t : TypeId} {cs : Array Value} (h : Has w g t cs) (hb : Below w.heap.size w w') : Has w' g t cs := by
  unfold Has; rw [hb.block g h.size_]; exact h
theorem Has.grown_ {w w' : World} {g : Nat} {t : TypeId} {cs : Array Value} {row : Option Nat} (h : Has w g t cs) (hb : w.grownBy w' row) (hg : some g ≠ row) : Has w' g t cs := by
  unfold Has; rw [hb.block g h.size_ hg]; exact h

/-- The world is as it was, but for block g. -/
structure At (g : Nat) (w w' : World) : Prop where
  os : w'.os = w.os
  tape : w'.tape = w.tape
  output : w'.output = w.output
  size : w'.heap.size = w.heap.size
  block : ∀ k, k ≠ g → w'.heap[k]? = w.heap[k]?
theorem At.refl (g : Nat) (w : World) : At g w w := ⟨rfl, rfl, rfl, rfl, fun _ _ => rfl⟩
theorem At.trans {g : Nat} {a b c : World} (h : At g a b) (k : At g b c) : At g a c := ⟨k.os.trans h.os, k.tape.trans h.tape, k.output.trans h.output, k.size.trans h.size, fun j hj => (k.block j hj).trans (h.block j hj)⟩
theorem At.put {g : Nat} {a w : World} (h : At g a w) (i : Nat) (u : Value) : At g a (w.setCell ⟨g, i, none⟩ u) :=
  h.trans ⟨rfl, rfl, rfl, by simp [World.setCell], fun k hk => Below.heap_setCell _ _ _ _ hk⟩
theorem At.below {g B : Nat} {w w' : World} (h : At g w w') (hB : B ≤ g) : Below B w w' := ⟨h.os, h.tape, h.output, Nat.le_of_eq h.size.symm, fun k hk => h.block k (by omega)⟩
theorem Has.at_ {w w' : World} {g k : Nat} {t : TypeId} {cs : Array Value} (h : Has w k t cs) (hb : At g w w') (hk : k ≠ g) : Has w' k t cs := by
  unfold Has; rw [hb.block k hk]; exact h

/-- A row of n whole numbers that fills block g. -/
def Row (w : World) (g n : Nat) (f : Nat → Int) : Prop := Has w g 3 ((List.range n).map fun i => Value.int .i64 (f i)).toArray
def upd {α : Type} (f : Nat → α) (i : Nat) (v : α) (j : Nat) : α := if j = i then v else f j
theorem upd_same {α : Type} (f : Nat → α) (i : Nat) (v : α) : upd f i v i = v := if_pos rfl
theorem upd_other {α : Type} {f : Nat → α} {i j : Nat} {v : α} (h : j ≠ i) : upd f i v j = f j := if_neg h
theorem Row.read {w : World} {g n : Nat} {f : Nat → Int} (h : Row w g n f) {i : Nat} (hi : i < n) : w.cell? ⟨g, i, none⟩ = some (.int .i64 (f i)) := by
  rw [Has.read h i]; simp [hi]
theorem Row.put {w : World} {g n : Nat} {f : Nat → Int} (h : Row w g n f) (i : Nat) (v : Int) : Row (w.setCell ⟨g, i, none⟩ (.int .i64 v)) g n (upd f i v) := by
  have k := Has.put_ h i (.int .i64 v)
  have e : (((List.range n).map fun i => Value.int .i64 (f i)).toArray.setIfInBounds i (.int .i64 v)) = ((List.range n).map fun j => Value.int .i64 (upd f i v j)).toArray := by
    apply Array.ext
    · simp
    · intro j h1 h2
      simp only [Array.getElem_setIfInBounds, List.getElem_toArray, List.getElem_map, List.getElem_range, upd]
      by_cases hj : i = j
      · simp [hj]
      · simp [hj, Ne.symm hj]
  rw [e] at k; exact k
theorem Row.cong {w : World} {g n : Nat} {f f' : Nat → Int} (h : Row w g n f) (e : ∀ i, i < n → f i = f' i) : Row w g n f' := by
  unfold Row at *
  rw [show ((List.range n).map fun i => Value.int .i64 (f' i)) = (List.range n).map fun i => Value.int .i64 (f i) from List.map_congr_left fun i hi => by rw [e i (List.mem_range.1 hi)]]
  exact h
theorem info3 : (Try.prog.info? 3).map (fun i => (i.zero, i.size, i.bytes)) = some (some (.int .i64 0), 1, 8) := by kernel_rfl
theorem has_full {w : World} {base g n size : Nat} {e : TypeId} {xs : List Value} (h : w.ownsRow base e size (.slice (some ⟨g, 0, none⟩) n n) n xs) : Has w g e xs.toArray := by
  obtain ⟨hl, ⟨h, -⟩ | ⟨g', cap, cur, hv, -, hg, -, -, hs, ht⟩⟩ := h
  · cases h
  · simp only [Value.slice.injEq, Option.some.injEq, Addr.mk.injEq] at hv
    obtain ⟨⟨rfl, -⟩, -, rfl⟩ := hv
    have : cur = xs.toArray := by
      rw [← ht, List.take_of_length_le (by simp [hs])]
    rw [this] at hg; exact hg
theorem row_zero {w : World} {base g n : Nat} (h : w.ownsRow base 3 1 (.slice (some ⟨g, 0, none⟩) n n) n (madeCells #[Value.int .i64 0] n).toList) : Row w g n (fun _ => 0) := by
  have k := has_full h
  unfold Row
  have e : (madeCells #[Value.int .i64 0] n).toList = (List.range n).map fun _ => Value.int .i64 0 := by
    rw [toList_madeCells_one]
    apply List.ext_getElem <;> simp
  rw [e] at k; exact k
theorem below_grown {B : Nat} {a w w' : World} (h : Below B a w) (hg : w.grownBy w' none) (hB : B ≤ w.heap.size) : Below B a w' := h.grown hg hB (fun k hk => by cases hk)
theorem below_al {a w : World} (h : Below a.heap.size a w) (o : Obj) : Below a.heap.size a (w.alloc o) := al h o
theorem below_dr {a w : World} (h : Below a.heap.size a w) : Below a.heap.size a w.drew := Below.drew h
end Go.Proofs.Ytfkcogocaecodaa
namespace Go.Proofs.Ytfkcogocaecodaa
open Go.ChangeShapes Go.WideShapes Go.ChangeAt Go.RowKit
set_option linter.unusedVariables false
set_option linter.unusedSimpArgs false

structure Fb where
  g : Nat
  t : TypeId
  cs : Array Value
def CF (w : World) (g : Nat) : Nat → List Value → Prop
  | _, [] => True
  | o, v :: l => (w.cell? ⟨g, o, none⟩ = some v ∧ w.frozen? ⟨g, o, none⟩ = false) ∧ CF w g (o + 1) l
def BC (w : World) : List Fb → Prop
  | [] => True
  | x :: l => (x.g < w.heap.size ∧ CF w x.g 0 x.cs.toList) ∧ BC w l
def Blk (B : Nat) (w : World) : List Fb → Prop
  | [] => True
  | x :: l => B ≤ x.g ∧ Has w x.g x.t x.cs ∧ (∀ y ∈ l, y.g ≠ x.g) ∧ Blk B w l
theorem cf_of {w : World} {g : Nat} {t : TypeId} {cs : Array Value} (h : Has w g t cs) : ∀ (l : List Value) (o : Nat), cs.toList.drop o = l → CF w g o l
  | [], _, _ => trivial
  | v :: l, o, e => by
    refine ⟨⟨?_, h.open_ o⟩, cf_of h l (o + 1) (by rw [← List.drop_drop, e]; rfl)⟩
    rw [h.read o, ← Array.getElem?_toList, ← List.head?_drop, e]; rfl
theorem Blk.cells {B : Nat} {w : World} : ∀ {l : List Fb}, Blk B w l → BC w l
  | [], _ => trivial
  | _ :: _, h => ⟨⟨h.2.1.size_, cf_of h.2.1 _ 0 rfl⟩, Blk.cells h.2.2.2⟩
theorem Blk.on {B : Nat} {w w1 : World} (hb : Below w.heap.size w w1) : ∀ {l : List Fb}, Blk B w l → Blk B w1 l
  | [], _ => trivial
  | _ :: _, h => ⟨h.1, h.2.1.on hb, h.2.2.1, Blk.on hb h.2.2.2⟩
theorem Blk.lt {B : Nat} {w : World} : ∀ {l : List Fb}, Blk B w l → ∀ y ∈ l, y.g < w.heap.size
  | [], _, _, hy => by cases hy
  | x :: l, h, y, hy => by
    rcases List.mem_cons.1 hy with rfl | hy
    · exact h.2.1.size_
    · exact Blk.lt h.2.2.2 y hy
theorem Blk.ge {B : Nat} {w : World} : ∀ {l : List Fb}, Blk B w l → ∀ y ∈ l, B ≤ y.g
  | [], _, _, hy => by cases hy
  | x :: l, h, y, hy => by
    rcases List.mem_cons.1 hy with rfl | hy
    · exact h.1
    · exact Blk.ge h.2.2.2 y hy
theorem Blk.far {B : Nat} {w : World} {p : Addr} (u : Value) : ∀ {l : List Fb}, Blk B w l → (∀ y ∈ l, y.g ≠ p.block) → Blk B (w.setCell p u) l
  | [], _, _ => trivial
  | _ :: _, h, k => ⟨h.1, h.2.1.apart_ (k _ (List.mem_cons_self ..)) _, h.2.2.1, Blk.far u h.2.2.2 fun y hy => k y (List.mem_cons_of_mem _ hy)⟩
def setB (i : Nat) (u : Value) : Nat → List Fb → List Fb
  | _, [] => []
  | 0, x :: l => ⟨x.g, x.t, x.cs.setIfInBounds i u⟩ :: l
  | k + 1, x :: l => x :: setB i u k l
def numB : Nat → List Fb → Nat
  | _, [] => 0
  | 0, x :: _ => x.g
  | k + 1, _ :: l => numB k l
theorem setB_g (i : Nat) (u : Value) : ∀ (k : Nat) (l : List Fb), (setB i u k l).map (·.g) = l.map (·.g)
  | _, [] => by cases ‹Nat› <;> rfl
  | 0, x :: l => rfl
  | k + 1, x :: l => by simp [setB, setB_g i u k l]
theorem numB_mem : ∀ (k : Nat) (l : List Fb), k < l.length → numB k l ∈ l.map (·.g)
  | _, [], h => by simp at h
  | 0, x :: l, _ => by simp [numB]
  | k + 1, x :: l, h => by simp only [numB, List.map_cons, List.mem_cons]; right; exact numB_mem k l (by simpa using h)
theorem Blk.put {B : Nat} {w : World} (i : Nat) (u : Value) : ∀ (k : Nat) {l : List Fb}, Blk B w l → k < l.length → Blk B (w.setCell ⟨numB k l, i, none⟩ u) (setB i u k l)
  | _, [], _, h => by simp at h
  | 0, x :: l, h, _ => ⟨h.1, h.2.1.put_ i u, h.2.2.1, Blk.far u h.2.2.2 fun y hy => h.2.2.1 y hy⟩
  | k + 1, x :: l, h, hk => by
    have hk' : k < l.length := by simpa using hk
    have m := numB_mem k l hk'
    obtain ⟨y, hy, e⟩ := List.mem_map.1 m
    refine ⟨h.1, h.2.1.apart_ ?_ _, ?_, Blk.put i u k h.2.2.2 hk'⟩
    · have := h.2.2.1 y hy; simp only [numB]; omega
    · intro z hz
      have : z.g ∈ (setB i u k l).map (·.g) := List.mem_map.2 ⟨z, hz, rfl⟩
      rw [setB_g] at this
      obtain ⟨y', hy', e'⟩ := List.mem_map.1 this
      rw [← e']; exact h.2.2.1 y' hy'
def Env (w0 w : World) (l : List Fb) : Prop := Below w0.heap.size w0 w ∧ Blk w0.heap.size w l
theorem Env.nil (w : World) : Env w w [] := ⟨Below.refl _ _, trivial⟩
theorem Env.on {w0 w w1 : World} {l : List Fb} (h : Env w0 w l) (hb : Below w.heap.size w w1) : Env w0 w1 l := ⟨belows h.1 hb, h.2.on hb⟩
theorem Env.add {w0 w : World} {l : List Fb} (h : Env w0 w l) (n : Nat) (t : TypeId) (cs : Array Value) (e : w.heap.size = n) : Env w0 (w.alloc (.cells cs t)) (⟨n, t, cs⟩ :: l) := by
  subst e
  exact ⟨al h.1 _, h.1.size, Has.new_ _ _ _, fun y hy => Nat.ne_of_lt (h.2.lt y hy), h.2.on (al1 _ _)⟩
theorem Env.more {w0 w : World} {l : List Fb} (h : Env w0 w l) (o : Obj) : Env w0 (w.alloc o) l := h.on (al1 _ _)
theorem Env.drw {w0 w : World} {l : List Fb} (h : Env w0 w l) : Env w0 w.drew l := h.on (Below.drew (Below.refl _ _))
theorem Env.dr {w0 w : World} {l : List Fb} (h : Env w0 w l) (n : Nat) : Env w0 (w.drewN n) l := h.on (below_drewN (Below.refl _ _) n)
theorem Env.put {w0 w : World} {l : List Fb} (h : Env w0 w l) (k i : Nat) (u : Value) (hb : Nat.blt k l.length = true) : Env w0 (w.setCell ⟨numB k l, i, none⟩ u) (setB i u k l) := by
  have hk : k < l.length := by simpa using hb
  refine ⟨h.1.setCell ?_ _, h.2.put i u k hk⟩
  obtain ⟨y, hy, e⟩ := List.mem_map.1 (numB_mem k l hk)
  have := h.2.ge y hy; simp only; omega
theorem Env.cells {w0 w : World} {l : List Fb} (h : Env w0 w l) : BC w l := h.2.cells
theorem Env.tail {w0 w : World} {l : List Fb} {x : Fb} (h : Env w0 w (x :: l)) : Env w0 w l := ⟨h.1, h.2.2.2.2⟩
theorem Env.lt {w0 w : World} {l : List Fb} (h : Env w0 w l) (k : Nat) (hk : k < l.length) : numB k l < w.heap.size := by
  obtain ⟨y, hy, e⟩ := List.mem_map.1 (numB_mem k l hk)
  have := h.2.lt y hy; omega
theorem Env.swap {w0 w : World} {l : List Fb} {x y : Fb} (h : Env w0 w (x :: y :: l)) : Env w0 w (y :: x :: l) := by
  obtain ⟨hb, h1, h2, h3, h4, h5, h6, h7⟩ := h
  refine ⟨hb, h4, h5, ?_, h1, h2, ?_, h7⟩
  · intro z hz
    rcases List.mem_cons.1 hz with rfl | hz
    · exact fun e => h3 y (List.mem_cons_self ..) e.symm
    · exact h6 z hz
  · exact fun z hz => h3 z (List.mem_cons_of_mem _ hz)
theorem sz1 {w : World} {o : Obj} {n : Nat} (h : w.heap.size = n) : (w.alloc o).heap.size = n + 1 := by simp [h]
theorem Env.six {w0 w : World} {l : List Fb} {u0 u1 u2 u3 u4 u5 : Value} (h : Env w0 w l) (k : Nat) (hb : Nat.blt k l.length = true) :
    Env w0 ((((((w.setCell ⟨numB k l, 0, none⟩ u0).setCell ⟨numB k l, 1, none⟩ u1).setCell ⟨numB k l, 2, none⟩ u2).setCell ⟨numB k l, 3, none⟩ u3).setCell ⟨numB k l, 4, none⟩ u4).setCell ⟨numB k l, 5, none⟩ u5) (setB 5 u5 k (setB 4 u4 k (setB 3 u3 k (setB 2 u2 k (setB 1 u1 k (setB 0 u0 k l)))))) := by
  have e : ∀ (k : Nat) (l : List Fb) (i : Nat) (u : Value), numB k (setB i u k l) = numB k l := by
    intro k l i u
    induction l generalizing k with
    | nil => cases k <;> rfl
    | cons x l ih => cases k with
      | zero => rfl
      | succ k => exact ih k
  have e2 : ∀ (k : Nat) (l : List Fb) (i : Nat) (u : Value), (setB i u k l).length = l.length := by
    intro k l i u
    have := congrArg List.length (setB_g i u k l); simpa using this
  have h0 := h.put k 0 u0 hb
  have h1 := h0.put k 1 u1 (by rw [e2]; exact hb)
  have h2 := h1.put k 2 u2 (by rw [e2, e2]; exact hb)
  have h3 := h2.put k 3 u3 (by rw [e2, e2, e2]; exact hb)
  have h4 := h3.put k 4 u4 (by rw [e2, e2, e2, e2]; exact hb)
  have h5 := h4.put k 5 u5 (by rw [e2, e2, e2, e2, e2]; exact hb)
  simp only [e] at h5
  exact h5
theorem Env.cong {w0 w : World} {l l' : List Fb} (h : Env w0 w l) (e : l = l') : Env w0 w l' := e ▸ h
end Go.Proofs.Ytfkcogocaecodaa
namespace Go.Proofs.Ytfkcogocaecodaa
open Go.ChangeShapes Go.WideShapes Go.ChangeAt Go.RowKit
set_option linter.unusedVariables false
set_option linter.unusedSimpArgs false

structure Pt where
  x : Int
  y : Int
  z : Int
deriving DecidableEq
def Pt.val (p : Pt) : Value := .agg #[.int .i64 p.x, .int .i64 p.y, .int .i64 p.z]
def Pt.cs (p : Pt) : Array Value := #[.int .i64 p.x, .int .i64 p.y, .int .i64 p.z]
def pc (p : Pt) : List Value := [.int .i64 p.x, .int .i64 p.y, .int .i64 p.z]
theorem pl (p : Pt) : (pc p).length = 3 := rfl
def Pt.bd (p : Pt) (L : Int) : Prop := (-L ≤ p.x ∧ p.x ≤ L) ∧ (-L ≤ p.y ∧ p.y ≤ L) ∧ (-L ≤ p.z ∧ p.z ≤ L)
def Pt.ok (p : Pt) : Prop := I64 p.x ∧ I64 p.y ∧ I64 p.z
def adp (p q : Pt) : Pt := ⟨p.x + q.x, p.y + q.y, p.z + q.z⟩
def scp (p : Pt) (n : Int) : Pt := ⟨p.x * n, p.y * n, p.z * n⟩
def inB (L : Int) (p : Pt) : Bool := (decide (-L ≤ p.x) && decide (p.x ≤ L)) && (decide (-L ≤ p.y) && decide (p.y ≤ L)) && (decide (-L ≤ p.z) && decide (p.z ≤ L))
theorem inB_bd {L : Int} {p : Pt} : inB L p = true ↔ p.bd L := by unfold inB Pt.bd; simp [and_assoc]
theorem bd_ok {p : Pt} {L : Int} (h : p.bd L) (hL : L ≤ 9223372036854775807) : p.ok := by
  unfold Pt.bd at h; unfold Pt.ok I64; omega
theorem bd_add {p q : Pt} {L M : Int} (h : p.bd L) (k : q.bd M) : (adp p q).bd (L + M) := by
  unfold Pt.bd adp at *; dsimp only; omega
theorem bd_mono {p : Pt} {L M : Int} (h : p.bd L) (k : L ≤ M) : p.bd M := by unfold Pt.bd at *; omega
theorem bd_scl {p : Pt} {L M n : Int} (h : p.bd L) (h0 : 0 ≤ n) (h1 : n ≤ M) : (scp p n).bd (L * M) := by
  unfold Pt.bd scp at *; dsimp only
  have hL : 0 ≤ L := by omega
  have k : ∀ x : Int, -L ≤ x → x ≤ L → -(L * M) ≤ x * n ∧ x * n ≤ L * M := fun x a b => by
    have e1 : x * n ≤ L * n := Int.mul_le_mul_of_nonneg_right b h0
    have e2 : -L * n ≤ x * n := Int.mul_le_mul_of_nonneg_right a h0
    have e3 : L * n ≤ L * M := Int.mul_le_mul_of_nonneg_left h1 hL
    have e4 : -L * n = -(L * n) := Int.neg_mul _ _
    omega
  exact ⟨k _ h.1.1 h.1.2, k _ h.2.1.1 h.2.1.2, k _ h.2.2.1 h.2.2.2⟩
theorem envb {w0 w : World} {l : List Fb} (h : Env w0 w l) : Below w0.heap.size w0 w := h.1
theorem mx3 (x y z V : Int) (w : World) (h : (if z > (if y > x then y else x) then z else (if y > x then y else x)) = V) : (Builtin.max_ #[3, 3, 3] 3 #[.int .i64 x, .int .i64 y, .int .i64 z]).run Try.prog w = .ok (.int .i64 V) w := by
  rw [← h]; simp [Builtin.max_, Builtin.max2]
theorem mn3 (x y z V : Int) (w : World) (h : (if z < (if y < x then y else x) then z else (if y < x then y else x)) = V) : (Builtin.min_ #[3, 3, 3] 3 #[.int .i64 x, .int .i64 y, .int .i64 z]).run Try.prog w = .ok (.int .i64 V) w := by
  rw [← h]; simp [Builtin.min_, Builtin.min2]
theorem i64w {n : Int} (h : I64 n) : IntKind.i64.wrap n = n := IntWalk.i64_in _ h
theorem plus_w (a b c x y z A B C : Int) (hx : IntKind.i64.wrap (a + x) = A) (hy : IntKind.i64.wrap (b + y) = B) (hz : IntKind.i64.wrap (c + z) = C) (w : World) : Calls Try.prog 36 #[.agg #[.int .i64 a, .int .i64 b, .int .i64 c], .agg #[.int .i64 x, .int .i64 y, .int .i64 z]] w fun e w' => e = .returned (.agg #[.int .i64 A, .int .i64 B, .int .i64 C]) ∧ Below w.heap.size w w' := by
  go_enter Try.func36, Try.ntmps36
  go_wp2
  exact bodyPost_ret (v := .agg #[.int .i64 A, .int .i64 B, .int .i64 C]) (by simp [results, Try.results36, go_sem]) rfl ⟨rfl, al (al (al1 w _) _) _⟩
theorem plus_36 (p q : Pt) (h : (adp p q).ok) (w : World) : Calls Try.prog 36 #[p.val, q.val] w fun e w' => e = .returned (adp p q).val ∧ Below w.heap.size w w' :=
  plus_w _ _ _ _ _ _ _ _ _ (i64w h.1) (i64w h.2.1) (i64w h.2.2) w
theorem times_72 (p : Pt) (n : Int) (h : (scp p n).ok) (w : World) : Calls Try.prog 72 #[p.val, .int .i64 n] w fun e w' => e = .returned (scp p n).val ∧ Below w.heap.size w w' := by
  have W0 : IntKind.i64.wrap (p.x * n) = p.x * n := i64w h.1
  have W1 : IntKind.i64.wrap (p.y * n) = p.y * n := i64w h.2.1
  have W2 : IntKind.i64.wrap (p.z * n) = p.z * n := i64w h.2.2
  have E := ((Env.nil w).add w.heap.size 24 #[.int .i64 p.x, .int .i64 p.y, .int .i64 p.z] rfl)
  obtain ⟨x, y, z⟩ := p
  clear h
  unfold scp Pt.val
  dsimp only at *
  go_enter Try.func72, Try.ntmps72
  go_wp2
  exact bodyPost_ret (v := .agg #[.int .i64 (x * n), .int .i64 (y * n), .int .i64 (z * n)]) (by simp [results, Try.results72, go_sem]) rfl ⟨rfl, al (envb E) _⟩
theorem within_34 (p : Pt) (L : Int) (h0 : 0 ≤ L) (h1 : L ≤ 100000000) (w : World) : Calls Try.prog 34 #[p.val, .int .i64 L] w fun e w' => e = .returned (.bool (inB L p)) ∧ Below w.heap.size w w' := by
  obtain ⟨x, y, z⟩ := p
  obtain ⟨mn, hn⟩ : ∃ V, (if z < (if y < x then y else x) then z else (if y < x then y else x)) = V := ⟨_, rfl⟩
  obtain ⟨mx, hm⟩ : ∃ V, (if z > (if y > x then y else x) then z else (if y > x then y else x)) = V := ⟨_, rfl⟩
  have hmn := fun wz => mn3 x y z mn wz hn
  have hmx := fun wz => mx3 x y z mx wz hm
  have W0 : IntKind.i64.wrap (-L) = -L := i64w (by unfold I64; omega)
  have hv : inB L ⟨x, y, z⟩ = (decide (mn ≥ -L) && decide (mx ≤ L)) := by
    rw [Bool.eq_iff_iff, inB_bd]
    unfold Pt.bd
    simp only [Bool.and_eq_true, decide_eq_true_eq]
    subst hn hm
    (repeat' split) <;> omega
  rw [hv]
  have E := ((Env.nil w).add w.heap.size 24 #[.int .i64 x, .int .i64 y, .int .i64 z] rfl)
  have C := E.cells
  simp [BC, CF] at C
  clear hn hm h0 h1 hv
  unfold Pt.val
  dsimp only
  cases hg : decide (mn ≥ -L)
  all_goals
    go_enter Try.func34, Try.ntmps34
    go_wp2
    go_ret
    exact ⟨rfl, envb E⟩
end Go.Proofs.Ytfkcogocaecodaa
namespace Go.Proofs.Ytfkcogocaecodaa
open Go.ChangeShapes Go.WideShapes Go.ChangeAt Go.RowKit
set_option linter.unusedVariables false
set_option linter.unusedSimpArgs false

theorem lt_of_cell {w : World} {a : Addr} {v : Value} (h : w.cell? a = some v) : a.block < w.heap.size := by
  rcases Nat.lt_or_ge a.block w.heap.size with k | k
  · exact k
  · rw [World.cell?, Array.getElem?_eq_none k] at h; cases h
theorem cell_later {w w1 : World} (hb : Below w.heap.size w w1) {a : Addr} {v : Value} (h : w.cell? a = some v) : w1.cell? a = some v := by
  rw [hb.cell (lt_of_cell h)]; exact h
abbrev S2 := Int × Int
def zc (z : Int) : List Value := [.int .i64 z]
def sc (p : S2) : List Value := [.int .i64 p.1, .int .i64 p.2]
def uc (n : Nat) : List Value := [.int .u64 (n : Int)]
theorem flat_len {α : Type} (f : α → List Value) (s : Nat) (hf : ∀ x, (f x).length = s) : ∀ l : List α, (l.flatMap f).length = l.length * s
  | [] => by simp
  | x :: l => by rw [List.flatMap_cons, List.length_append, hf, flat_len f s hf l, List.length_cons, Nat.succ_mul]; omega
theorem flat_at {α : Type} (f : α → List Value) (s : Nat) (hf : ∀ x, (f x).length = s) : ∀ (l : List α) (k : Nat) (hk : k < l.length) (j : Nat), j < s → (l.flatMap f)[k * s + j]? = (f l[k])[j]?
  | [], k, hk, _, _ => by simp at hk
  | x :: l, 0, _, j, hj => by
    rw [List.flatMap_cons, List.getElem?_append_left (by rw [hf]; omega)]; simp
  | x :: l, k + 1, hk, j, hj => by
    have h := flat_at f s hf l k (by simpa using hk) j hj
    rw [List.flatMap_cons, List.getElem?_append_right (by rw [hf, Nat.succ_mul]; omega), hf, show (k + 1) * s + j - s = k * s + j by rw [Nat.succ_mul]; omega, h]
    simp
/-- A row of the call's own. -/
def Own {α : Type} (f : α → List Value) (t : TypeId) (s B : Nat) (w : World) (v : Value) (l : List α) : Prop := w.ownsRow B t s v l.length (l.flatMap f)
/-- A row that can be read. -/
def Rd {α : Type} (f : α → List Value) (s : Nat) (w : World) (v : Value) (l : List α) : Prop := ∃ q c, v = .slice q l.length c ∧ ∀ k (h : k < l.length), ∃ g, q = some ⟨g, 0, none⟩ ∧ ∀ j, j < s → w.cell? ⟨g, k * s + j, none⟩ = (f l[k])[j]?
theorem own_on {B : Nat} {w w' : World} {v : Value} {n : Nat} {e : TypeId} {s : Nat} {xs : List Value} (h : w.ownsRow B e s v n xs) (hb : Below w.heap.size w w') : w'.ownsRow B e s v n xs := by
  have k := h.lt
  obtain ⟨hl, h0 | ⟨g, cap, cur, rfl, hB, hg, r⟩⟩ := h
  · exact ⟨hl, .inl h0⟩
  · have := k g rfl
    exact ⟨hl, .inr ⟨g, cap, cur, rfl, hB, by rw [hb.block g this.2]; exact hg, r⟩⟩
theorem own_at {B g : Nat} {w w' : World} {v : Value} {n : Nat} {e : TypeId} {s : Nat} {xs : List Value} (h : w.ownsRow B e s v n xs) (hb : At g w w') (hg : v.ownBlock ≠ some g) : w'.ownsRow B e s v n xs := by
  obtain ⟨hl, h0 | ⟨g', cap, cur, rfl, hB, hc, r⟩⟩ := h
  · exact ⟨hl, .inl h0⟩
  · have : g' ≠ g := fun e => hg (by rw [e]; rfl)
    exact ⟨hl, .inr ⟨g', cap, cur, rfl, hB, by rw [hb.block g' this]; exact hc, r⟩⟩
theorem Own.on {α : Type} {f : α → List Value} {t : TypeId} {s B : Nat} {w w' : World} {v : Value} {l : List α} (h : Own f t s B w v l) (hb : Below w.heap.size w w') : Own f t s B w' v l := own_on h hb
theorem Own.mono {α : Type} {f : α → List Value} {t : TypeId} {s B B' : Nat} {w : World} {v : Value} {l : List α} (h : Own f t s B w v l) (hB : B' ≤ B) : Own f t s B' w v l := by
  obtain ⟨hl, h0 | ⟨g, cap, cur, rfl, hg, r⟩⟩ := h
  · exact ⟨hl, .inl h0⟩
  · exact ⟨hl, .inr ⟨g, cap, cur, rfl, Nat.le_trans hB hg, r⟩⟩
theorem Own.rd {α : Type} {f : α → List Value} {t : TypeId} {s B : Nat} {w : World} {v : Value} {l : List α} (hf : ∀ x, (f x).length = s) (h : Own f t s B w v l) : Rd f s w v l := by
  rcases Nat.eq_zero_or_pos l.length with h0 | h0
  · obtain ⟨hl, ⟨rfl, -⟩ | ⟨g, cap, cur, rfl, -⟩⟩ := h
    · exact ⟨none, 0, by rw [h0], fun k hk => by omega⟩
    · exact ⟨_, cap, rfl, fun k hk => by omega⟩
  · obtain ⟨hl, ⟨rfl, hn⟩ | ⟨g, cap, cur, rfl, hB, hg, hn, hm, hs, ht⟩⟩ := h
    · omega
    · refine ⟨_, cap, rfl, fun k hk => ⟨g, rfl, fun j hj => ?_⟩⟩
      have hi : k * s + j < l.length * s := by
        have : (k + 1) * s ≤ l.length * s := Nat.mul_le_mul_right s hk
        rw [Nat.succ_mul] at this; omega
      rw [cell_of_row w g _ cur t (0, 0) hg, ← flat_at f s hf l k hk j hj, ← ht, List.getElem?_take_of_lt hi, Array.getElem?_toList]
theorem Rd.on {α : Type} {f : α → List Value} {s : Nat} {w w' : World} {v : Value} {l : List α} (hf : ∀ x, (f x).length = s) (h : Rd f s w v l) (hb : Below w.heap.size w w') : Rd f s w' v l := by
  obtain ⟨q, c, rfl, k⟩ := h
  refine ⟨q, c, rfl, fun i hi => ?_⟩
  obtain ⟨g, e, hc⟩ := k i hi
  refine ⟨g, e, fun j hj => ?_⟩
  have hc1 := hc j hj
  have hl : j < (f l[i]).length := by rw [hf]; exact hj
  rw [List.getElem?_eq_getElem hl] at hc1 ⊢
  exact cell_later hb hc1
theorem zl (z : Int) : (zc z).length = 1 := rfl
theorem sl (p : S2) : (sc p).length = 2 := rfl
theorem ul (n : Nat) : (uc n).length = 1 := rfl
end Go.Proofs.Ytfkcogocaecodaa
namespace Go.Proofs.Ytfkcogocaecodaa
set_option linter.unusedVariables false
set_option linter.unusedSimpArgs false

section
variable {P : Program} {ops : Array Oper} {Q : Exit → Act → World → Prop} {md : Region.Mode} {S : World → Prop} {n : Nat}

def wpAnyT (P : Program) (md : Region.Mode) (ops : Array Oper) (Q : Exit → Act → World → Prop) (S : World → Prop) (n : Nat) : Nat → Array Bool → Act → World → Prop
  | 0, listed, a, w => Region.ready md ops listed = [] ∧ Q .normal a w
  | fuel + 1, listed, a, w =>
    (Region.ready md ops listed = [] → Q .normal a w) ∧
    ∀ i ∈ Region.ready md ops listed, wpOp P ops Q i (fun a' w' => (i < n → S w') ∧ wpAnyT P md ops Q S n fuel (listed.setIfInBounds i true) a' w') a w

theorem wpAny_of_T : ∀ (fuel : Nat) (listed : Array Bool) (a : Act) (w : World), wpAnyT P md ops Q S n fuel listed a w → wpAny P md ops Q fuel listed a w
  | 0, _, _, _, h => h
  | fuel + 1, _, _, _, h => ⟨h.1, fun i hi => wpOp_mono (fun a' w' h' => wpAny_of_T fuel _ a' w' h'.2) (h.2 i hi)⟩

theorem wpAnyT_of_seq : ∀ (l : List Oper) (k : Nat) (listed : Array Bool) (a : Act) (w : World), n ≤ k → (∀ j, l[j]? = ops[k + j]?) →
    Region.seqB md ops l.length k listed = true → wpList P ops Q l a w → wpAnyT P md ops Q S n l.length listed a w
  | [], _, _, _, _, _, _, hB, h => ⟨by simpa [Region.seqB] using hB, h⟩
  | o :: l, k, listed, a, w, hk, hl, hB, h => by
    have h0 : ops[k]? = some o := by simpa using (hl 0).symm
    simp only [List.length_cons, Region.seqB, Bool.and_eq_true, decide_eq_true_eq] at hB
    refine ⟨fun h1 => (by rw [hB.1] at h1; cases h1), fun i hi => ?_⟩
    rw [hB.1] at hi
    have hik : i = k := by simpa using hi
    subst hik
    have hw : wpOp P ops Q i (wpList P ops Q l) a w := by unfold wpOp; simp only [h0]; exact h
    exact wpOp_mono (fun a' w' h' => ⟨fun hin => absurd hin (by omega), wpAnyT_of_seq l (i + 1) _ a' w' (by omega) (fun j => by have := hl (j + 1); simpa [Nat.add_assoc, Nat.add_comm 1 j] using this) hB.2 h'⟩) hw

theorem wpAnyT_first {i : Nat} {oi : Oper} {v : Value} (hi : ops[i]? = some oi) (hsel : ∀ (j : Nat) (o : Oper) cs b, ops[j]? = some o → o.op ≠ .select cs b)
    (hQ : ∀ c a w, Q (.panic c) (a.put oi.dst v) w → Q (.panic c) a w)
    (hs : Region.sinkB md ops n = true) (hc : Region.chainB md ops n = true) (hn : n < ops.size) (hin : i < n) :
    ∀ (fuel : Nat) (listed : Array Bool) (a : Act) (w : World), HeadInv md ops n listed →
      (∀ j oj, ops[j]? = some oj → j ≠ i → listed.getD j true = false → (∀ e ∈ oj.after, Region.binds md e = true → e.on ≠ i) → oi.apart ops oj = true) →
      i ∈ Region.ready md ops listed → YieldsIf P ops S oi v a → S w →
      wpAnyT P md ops Q S n fuel (listed.setIfInBounds i true) (a.put oi.dst v) w → wpAnyT P md ops Q S n (fuel + 1) listed a w := by
  intro fuel
  induction fuel with
  | zero =>
    intro listed a w inv _ hr hy hS H
    refine ⟨fun h => (by rw [h] at hr; cases hr), fun j hj => ?_⟩
    by_cases hji : j = i
    · subst hji; exact hy.wpOp hi hS ⟨fun _ => hS, H⟩
    · have := ready_mono hj hji
      rw [H.1] at this
      cases this
  | succ fuel ih =>
    intro listed a w inv hfree hr hy hS H
    have hun := (mem_ready.1 hr).1
    refine ⟨fun h => (by rw [h] at hr; cases hr), fun j hj => ?_⟩
    have hjn : j < n := by
      rcases Nat.lt_or_ge j n with h | h
      · exact h
      · exact absurd hj (tail_waits hs hc hn inv _ i rfl hin hun j h)
    by_cases hji : j = i
    · subst hji; exact hy.wpOp hi hS ⟨fun _ => hS, H⟩
    · have h1 := H.2 j (ready_mono hj hji)
      obtain ⟨hjun, oj, hoj, hall⟩ := mem_ready.1 hj
      have hnot : ∀ e ∈ oj.after, Region.binds md e = true → e.on ≠ i := fun e he hb heq => by
        have h1 := hall e he hb
        rw [heq, getD_both hun] at h1
        cases h1
      have h2 := wpOp_putIf hoj (hfree j oj hoj hji hjun hnot) (fun cs b => hsel i oi cs b hi) (fun cs b => hsel j oj cs b hoj) hQ hy h1
      have hfree' : ∀ k ok, ops[k]? = some ok → k ≠ i → (listed.setIfInBounds j true).getD k true = false →
          (∀ e ∈ ok.after, Region.binds md e = true → e.on ≠ i) → oi.apart ops ok = true := fun k ok hk hki hun hno => by
        refine hfree k ok hk hki ?_ hno
        by_cases hjk : j = k
        · subst hjk; exact hjun
        · rw [getD_set_ne true hjk] at hun; exact hun
      refine wpOp_mono (fun a' w' h3 => ⟨fun _ => h3.2.1 hjn, ih (listed.setIfInBounds j true) a' w' (inv.set hj hjn) hfree' (ready_mono hr (Ne.symm hji)) h3.1 (h3.2.1 hjn) ?_⟩) h2
      rw [Array.setIfInBounds_comm _ _ hji]
      exact h3.2.2

/-- What is to be shown of a plan: R is what comes at the end. -/
def wpPlan (P : Program) (ops : Array Oper) (Q : Exit → Act → World → Prop) (S : World → Prop) (R : List Oper) : List (Oper × Bool) → Act → World → Prop
  | [], a, w => wpList P ops Q R a w
  | (o, true) :: p, a, w => ∃ v, YieldsIf P ops S o v a ∧ wpPlan P ops Q S R p (a.put o.dst v) w
  | (o, false) :: p, a, w => if Region.wanted o (yielded ops a.tmps) = true then Oper.wp P o a w (fun a' w' => S w' ∧ wpPlan P ops Q S R p a' w') Q else S w ∧ wpPlan P ops Q S R p (a.put o.dst undef) w

def planB (md : Region.Mode) (ops : Array Oper) (n : Nat) : List (Nat × Bool) → Array Bool → Bool
  | [], listed => Region.seqB md ops (ops.size - n) n listed
  | (i, true) :: p, listed => decide (i < n) && (Region.ready md ops listed).contains i && Region.free md ops listed i && planB md ops n p (listed.setIfInBounds i true)
  | (i, false) :: p, listed => decide (i < n) && decide (Region.ready md ops listed = [i]) && planB md ops n p (listed.setIfInBounds i true)

theorem wpAnyT_of_plan {l : List Oper} (hsel : Region.noSelect l.toArray = true) (hQ : ∀ c (a : Act) d v w, Q (.panic c) (a.put d v) w → Q (.panic c) a w)
    (hs : Region.sinkB md l.toArray n = true) (hc : Region.chainB md l.toArray n = true) (hn : n < l.length) :
    ∀ (p : List (Nat × Bool)) (listed : Array Bool) (a : Act) (w : World), HeadInv md l.toArray n listed → planB md l.toArray n p listed = true → S w →
      wpPlan P l.toArray Q S (l.drop n) (p.filterMap fun x => (l[x.1]?).map fun o => (o, x.2)) a w → wpAnyT P md l.toArray Q S n (p.length + (l.drop n).length) listed a w
  | [], listed, a, w, inv, hB, hS, h => by
    have hd : (l.drop n).length = l.toArray.size - n := by simp
    have := wpAnyT_of_seq (P := P) (Q := Q) (S := S) (n := n) (md := md) (ops := l.toArray) (l.drop n) n listed a w (Nat.le_refl _) (fun j => by simp [List.getElem?_drop]) (by rw [hd]; exact hB) h
    simpa using this
  | (i, true) :: p, listed, a, w, inv, hB, hS, h => by
    simp only [planB, Bool.and_eq_true, decide_eq_true_eq] at hB
    obtain ⟨⟨⟨hin, hr⟩, hf⟩, hB'⟩ := hB
    have hr' : i ∈ Region.ready md l.toArray listed := by simpa using hr
    have hil : i < l.length := by omega
    have h0 : l[i]? = some l[i] := List.getElem?_eq_getElem hil
    have h0' : l.toArray[i]? = some l[i] := by simp [h0]
    simp only [List.filterMap_cons, h0, Option.map_some, wpPlan] at h
    obtain ⟨v, hy, hK⟩ := h
    rw [show (((i, true) :: p).length + (l.drop n).length) = (p.length + (l.drop n).length) + 1 by simp; omega]
    exact wpAnyT_first h0' (Region.noSelect_spec hsel) (fun c a w hq => hQ c a _ v w hq) hs hc (by simpa using hn) hin _ listed a w inv (Region.free_spec h0' hf) hr' hy hS
      (wpAnyT_of_plan hsel hQ hs hc hn p _ _ w (inv.set hr' hin) hB' hS hK)
  | (i, false) :: p, listed, a, w, inv, hB, hS, h => by
    simp only [planB, Bool.and_eq_true, decide_eq_true_eq] at hB
    obtain ⟨⟨hin, hr⟩, hB'⟩ := hB
    have hr' : i ∈ Region.ready md l.toArray listed := by rw [hr]; simp
    have hil : i < l.length := by omega
    have h0 : l[i]? = some l[i] := List.getElem?_eq_getElem hil
    have h0' : l.toArray[i]? = some l[i] := by simp [h0]
    simp only [List.filterMap_cons, h0, Option.map_some, wpPlan] at h
    rw [show (((i, false) :: p).length + (l.drop n).length) = (p.length + (l.drop n).length) + 1 by simp; omega]
    refine ⟨fun h1 => (by rw [hr] at h1; cases h1), fun j hj => ?_⟩
    rw [hr] at hj
    have hji : j = i := by simpa using hj
    subst hji
    have hw : wpOp P l.toArray Q j (fun a' w' => S w' ∧ wpPlan P l.toArray Q S (l.drop n) (p.filterMap fun x => (l[x.1]?).map fun o => (o, x.2)) a' w') a w := by
      unfold wpOp
      simp only [h0']
      split at h
      · rename_i hwt; simp only [hwt, if_true]; exact .inl h
      · rename_i hwt; simp only [hwt]; exact h
    exact wpOp_mono (fun a' w' h' => ⟨fun _ => h'.1, wpAnyT_of_plan hsel hQ hs hc hn p _ a' w' (inv.set hr' hin) hB' h'.1 h'.2⟩) hw

/-- The beginning. -/
theorem wp_region_plan {id : Nat} {a : Act} {w : World} {l : List Oper} (n : Nat) (p : List (Nat × Bool)) (S : World → Prop) (hm : P.follows .mixedOrders = true)
    (hB : (Region.noSelect l.toArray && Region.sinkB .any l.toArray n && Region.chainB .any l.toArray n && decide (n < l.length) && decide (p.length = n) && planB .any l.toArray n p (Array.replicate l.toArray.size false)) = true)
    (hQ : ∀ c (a : Act) d v w, Q (.panic c) (a.put d v) w → Q (.panic c) a w) (hS : S w.drew)
    (h : wpPlan P l.toArray Q S (l.drop n) (p.filterMap fun x => (l[x.1]?).map fun o => (o, x.2)) a w.drew) : (Code.region id l.toArray true).wp P Q a w := by
  simp only [Bool.and_eq_true, decide_eq_true_eq] at hB
  obtain ⟨⟨⟨⟨⟨hsel, hs⟩, hc⟩, hn⟩, hp⟩, hpl⟩ := hB
  have inv0 : HeadInv .any l.toArray n (Array.replicate l.toArray.size false) :=
    ⟨by simp, fun j oj _ hl => (by rw [getD_replicate_false] at hl; cases hl), fun t _ ht => getD_in (by simpa using ht) (getD_replicate_false _ _)⟩
  have H := wpAnyT_of_plan (md := .any) hsel hQ hs hc hn p _ a w.drew inv0 hpl hS h
  have hlen : p.length + (l.drop n).length = l.toArray.size := by simp; omega
  rw [hlen] at H
  exact wp_region_any hm (wpAny_of_T _ _ _ _ H)

variable {R : List Oper} {o : Oper} {p : List (Oper × Bool)} {a : Act} {w : World}
theorem wpPlan_still {v : Value} (hy : YieldsIf P ops S o v a) (h : wpPlan P ops Q S R p (a.put o.dst v) w) : wpPlan P ops Q S R ((o, true) :: p) a w := ⟨v, hy, h⟩
theorem wpPlan_only (h : ∀ K : Act → World → Prop, Shut (∀ a w, S w → wpPlan P ops Q S R p a w → K a w) → if Region.wanted o (yielded ops a.tmps) = true then Oper.wp P o a w K Q else K (a.put o.dst undef) w) :
    wpPlan P ops Q S R ((o, false) :: p) a w := h (fun a' w' => S w' ∧ wpPlan P ops Q S R p a' w') (fun a w hS hW => ⟨hS, hW⟩)
theorem wpPlan_end (h : wpList P ops Q R a w) : wpPlan P ops Q S R [] a w := h
end
end Go.Proofs.Ytfkcogocaecodaa
namespace Go.Proofs.Ytfkcogocaecodaa
open Go.ChangeShapes Go.WideShapes Go.ChangeAt Go.RowKit
set_option linter.unusedVariables false
set_option linter.unusedSimpArgs false

/-- Points that are read, from any place on. -/
structure Slp (w : World) (p : Option Addr) (l : List Pt) : Prop where
  mx : l.length ≤ maxLen
  at_ : ∀ k (h : k < l.length), ∃ a, p = some a ∧ w.cell? (a.add (k * 3)) = some (.int .i64 l[k].x) ∧ w.cell? ⟨(a.add (k * 3)).block, (a.add (k * 3)).off + 1, none⟩ = some (.int .i64 l[k].y) ∧ w.cell? ⟨(a.add (k * 3)).block, (a.add (k * 3)).off + 2, none⟩ = some (.int .i64 l[k].z)
theorem Slp.on {w w1 : World} {p : Option Addr} {l : List Pt} (h : Slp w p l) (hb : Below w.heap.size w w1) : Slp w1 p l :=
  ⟨h.mx, fun k hk => let ⟨a, e, h0, h1, h2⟩ := h.at_ k hk; ⟨a, e, cell_later hb h0, cell_later hb h1, cell_later hb h2⟩⟩
theorem Slp.same {w w1 : World} {p : Option Addr} {l : List Pt} (h : Slp w p l) (hb : ∀ a, p = some a → w1.heap[a.block]? = w.heap[a.block]?) : Slp w1 p l := by
  refine ⟨h.mx, fun k hk => ?_⟩
  obtain ⟨a, e, h0, h1, h2⟩ := h.at_ k hk
  have hx := hb a e
  have hblk : (a.add (k * 3)).block = a.block := by simp only [Addr.add]; split <;> rfl
  have key : ∀ (o : Nat) (v : Value), w.cell? ⟨(a.add (k * 3)).block, o, none⟩ = some v → w1.cell? ⟨(a.add (k * 3)).block, o, none⟩ = some v := fun o v hv => by
    rw [← hv]; unfold World.cell?; rw [hblk, hx]
  refine ⟨a, e, ?_, key _ _ h1, key _ _ h2⟩
  rw [← h0]; unfold World.cell?; rw [hblk, hx]
theorem Rd.slp {w : World} {v : Value} {l : List Pt} (h : Rd pc 3 w v l) (hm : l.length ≤ maxLen) : ∃ q c, v = .slice q l.length c ∧ Slp w q l := by
  obtain ⟨q, c, rfl, h⟩ := h
  refine ⟨q, c, rfl, hm, fun k hk => ?_⟩
  obtain ⟨g, e, r⟩ := h k hk
  have ea : Addr.add ⟨g, 0, none⟩ (k * 3) = ⟨g, k * 3, none⟩ := by simp only [Addr.add]; (split <;> simp) <;> omega
  refine ⟨_, e, ?_, ?_, ?_⟩
  · rw [ea]; exact r 0 (by omega)
  · rw [ea]; exact r 1 (by omega)
  · rw [ea]; exact r 2 (by omega)
theorem own_slp {t : TypeId} {B : Nat} {w : World} {v : Value} {l : List Pt} (h : Own pc t 3 B w v l) : ∃ q c, v = .slice q l.length c ∧ Slp w q l := Rd.slp (Own.rd pl h) (by
  obtain ⟨hl, h0 | ⟨g, cap, cur, rfl, hB, hg, hc, hm, hz, ht⟩⟩ := h
  · rw [h0.2]; exact Nat.zero_le _
  · omega)
theorem near_85 (p : Pt) (w : World) : Calls Try.prog 85 #[p.val] w fun e w' => e = .returned (.bool (!inB 1048576 p)) ∧ Below w.heap.size w w' := by
  have h34 := fun W => within_34 p 1048576 (by decide) (by decide) W
  obtain ⟨x, y, z⟩ := p
  generalize inB 1048576 ⟨x, y, z⟩ = B at *
  unfold Pt.val at *
  dsimp only at *
  have E := ((Env.nil w).add w.heap.size 24 #[.int .i64 x, .int .i64 y, .int .i64 z] rfl)
  have C := E.cells
  simp [BC, CF] at C
  go_enter Try.func85, Try.ntmps85
  go_wp2_with (go_at_call 34; (with_reducible refine (h34 _).mono ?_); rintro X w1 ⟨rfl, hb⟩)
  go_ret
  exact ⟨rfl, belows (envb E) hb⟩
theorem all_drop {α : Type} {f : α → Bool} {l : List α} {k : Nat} (hk : k < l.length) (h : ∀ x ∈ l.take k, f x = true) (hv : f l[k] = true) : ∀ x ∈ l.take (k + 1), f x = true := by
  intro x hx
  rw [List.take_succ_eq_append_getElem hk] at hx
  rcases List.mem_append.1 hx with hx | hx
  · exact h x hx
  · rw [List.mem_singleton.1 hx]; exact hv
set_option maxHeartbeats 4000000 in
theorem idx_94 (p : Option Addr) (l : List Pt) (cap : Nat) (w : World) (hS : Slp w p l) :
    Calls Try.prog 94 #[.slice p l.length cap, .func (.func 85) #[] #[]] w fun e w' => ∃ i : Int, e = .returned (.int .i64 i) ∧ decide (i ≥ 0) = !l.all (inB 1048576) ∧ Below w.heap.size w w' := by
  have hm := hS.mx
  unfold maxLen at hm
  go_enter Try.func94, Try.ntmps94
  go_wp2
  go_loopw [8] (fun v wr => ∃ k : Nat, v = .int .i64 k ∧ k ≤ l.length ∧ Hid (∀ x ∈ l.take k, inB 1048576 x = true) ∧ Below w.heap.size w wr) (fun v _ => l.length - (intOf v).toNat)
  case atStart => exact ⟨0, rfl, Nat.zero_le _, Lib.hid (by simp), Below.refl _ _⟩
  case round =>
    obtain ⟨k, rfl, hk, hG, hB⟩ := hrel
    by_cases hlt : k < l.length
    · have g1 : decide ((k : Int) < (l.length : Int)) = true := by simp [hlt]
      obtain ⟨a, rfl, c0, c1, c2⟩ := (hS.on hB).at_ k hlt
      have W1 : IntKind.i64.wrap ((k : Int) + 1) = ((k + 1 : Nat) : Int) := by rw [IntWalk.i64_in _ (by omega)]; omega
      have hb := fun w => near_85 l[k] w
      unfold Pt.val at hb
      cases hv : inB 1048576 l[k]
      · have e : l.all (inB 1048576) = false := List.all_eq_false.2 ⟨_, List.getElem_mem hlt, by simp [hv]⟩
        simp only [hv, Bool.not_false] at hb
        go_wp2_with (go_at_call 85; (with_reducible refine (hb _).mono ?_); rintro e1 w1 ⟨rfl, hb1⟩)
        go_ret
        exact ⟨_, rfl, by rw [e]; simp, belows hB hb1⟩
      · simp only [hv, Bool.not_true] at hb
        go_wp2_with (go_at_call 85; (with_reducible refine (hb _).mono ?_); rintro e1 w1 ⟨rfl, hb1⟩)
        exact ⟨⟨k + 1, rfl, hlt, Lib.hid (all_drop hlt hG.out hv), belows hB hb1⟩, by simp [intOf]; omega⟩
    · have g1 : decide ((k : Int) < (l.length : Int)) = false := by simp; omega
      go_wp2
      go_ret
      have := hG.out
      rw [List.take_of_length_le (by omega)] at this
      have e : l.all (inB 1048576) = true := List.all_eq_true.2 this
      exact ⟨-1, rfl, by rw [e]; rfl, hB⟩
theorem near_84 (p : Option Addr) (l : List Pt) (cap : Nat) (w : World) (hS : Slp w p l) :
    Calls Try.prog 84 #[.slice p l.length cap, .func (.func 85) #[] #[]] w fun e w' => e = .returned (.bool (!l.all (inB 1048576))) ∧ Below w.heap.size w w' := by
  go_enter Try.func84, Try.ntmps84
  go_wp2_with (go_at_call 94; (with_reducible refine (idx_94 p l cap _ hS).mono ?_); rintro e1 w1 ⟨i, rfl, hi, hb1⟩)
  go_ret
  exact ⟨by simp only [hi]; rfl, hb1⟩
theorem near_70 (m : ByteArray) (p : Option Addr) (l : List Pt) (cap : Nat) (w : World) (hS : Slp w p l) :
    Calls Try.prog 70 #[.agg #[.string m, .slice p l.length cap]] w fun e w' => e = .returned (.bool (l.all (inB 1048576))) ∧ Below w.heap.size w w' := by
  have E := ((Env.nil w).add w.heap.size 83 #[.string m, .slice p l.length cap] rfl)
  have C := E.cells
  simp [BC, CF] at C
  have h84 := fun W (h : Below w.heap.size w W) => near_84 p l cap W (hS.on h)
  generalize hB : l.all (inB 1048576) = B at *
  go_enter Try.func70, Try.ntmps70
  go_wp2_with (go_at_call 84; (with_reducible refine (h84 _ (envb E)).mono ?_); rintro X w1 ⟨rfl, hb⟩)
  go_ret
  exact ⟨by simp, belows (envb E) hb⟩
end Go.Proofs.Ytfkcogocaecodaa
namespace Go.Proofs.Ytfkcogocaecodaa
open Go.RowKit
set_option linter.unusedVariables false
set_option linter.unusedSimpArgs false

/-- Of the blocks that lay, none is turned but such as lie from lo on, ahead of hi. -/
structure Chg (lo hi : Nat) (W W' : World) : Prop where
  os : W'.os = W.os
  tape : W'.tape = W.tape
  output : W'.output = W.output
  size : W.heap.size ≤ W'.heap.size
  block : ∀ k, k < W.heap.size → (k < lo ∨ hi ≤ k) → W'.heap[k]? = W.heap[k]?
theorem Chg.refl (lo hi : Nat) (W : World) : Chg lo hi W W := ⟨rfl, rfl, rfl, Nat.le_refl _, fun _ _ _ => rfl⟩
theorem Chg.trans {lo hi : Nat} {A B C : World} (h : Chg lo hi A B) (k : Chg lo hi B C) : Chg lo hi A C :=
  ⟨k.os.trans h.os, k.tape.trans h.tape, k.output.trans h.output, Nat.le_trans h.size k.size, fun j hj hl => (k.block j (Nat.lt_of_lt_of_le hj h.size) hl).trans (h.block j hj hl)⟩
theorem Chg.wide {lo hi lo' hi' : Nat} {A B : World} (h : Chg lo hi A B) (h1 : lo' ≤ lo) (h2 : hi ≤ hi') : Chg lo' hi' A B := ⟨h.os, h.tape, h.output, h.size, fun k hk hl => h.block k hk (by omega)⟩
theorem Chg.alloc {lo hi : Nat} (W : World) (o : Obj) : Chg lo hi W (W.alloc o) := ⟨rfl, rfl, rfl, by simp, fun k hk _ => Below.heap_alloc W o k hk⟩
theorem Chg.drew {lo hi : Nat} (W : World) (n : Nat) : Chg lo hi W (W.drewN n) := ⟨rfl, rfl, rfl, Nat.le_refl _, fun _ _ _ => rfl⟩
theorem Chg.put {lo hi : Nat} (W : World) (p : Addr) (v : Value) (h1 : lo ≤ p.block) (h2 : p.block < hi) : Chg lo hi W (W.setCell p v) :=
  ⟨rfl, rfl, rfl, by simp [World.setCell], fun k hk hl => Below.heap_setCell _ _ _ _ (by omega)⟩
theorem Chg.obj {lo hi l : Nat} (W : World) (o : Obj) (h1 : lo ≤ l) (h2 : l < hi) : Chg lo hi W (W.putObj l o) :=
  ⟨rfl, rfl, rfl, by simp, fun k hk hl => World.putObj_heap_other (by omega)⟩
theorem Chg.below {lo hi B : Nat} {W W' : World} (h : Chg lo hi W W') (hB : B ≤ lo) (hs : B ≤ W.heap.size) : Below B W W' := ⟨h.os, h.tape, h.output, h.size, fun k hk => h.block k (by omega) (.inl (by omega))⟩
/-- The blocks of S lie as they lay. -/
structure Kps (S : Nat → Prop) (W W' : World) : Prop where
  size : W.heap.size ≤ W'.heap.size
  block : ∀ k, k < W.heap.size → S k → W'.heap[k]? = W.heap[k]?
theorem Kps.refl (S : Nat → Prop) (W : World) : Kps S W W := ⟨Nat.le_refl _, fun _ _ _ => rfl⟩
theorem Kps.trans {S : Nat → Prop} {A B C : World} (h : Kps S A B) (k : Kps S B C) : Kps S A C := ⟨Nat.le_trans h.size k.size, fun j hj hs => (k.block j (Nat.lt_of_lt_of_le hj h.size) hs).trans (h.block j hj hs)⟩
theorem Kps.alloc {S : Nat → Prop} (W : World) (o : Obj) : Kps S W (W.alloc o) := ⟨by simp, fun k hk _ => Below.heap_alloc W o k hk⟩
theorem Kps.put {S : Nat → Prop} (W : World) (p : Addr) (v : Value) (h : ¬ S p.block) : Kps S W (W.setCell p v) := ⟨by simp [World.setCell], fun k hk hs => Below.heap_setCell _ _ _ _ (fun e => h (e ▸ hs))⟩
theorem Kps.less {S T : Nat → Prop} {A B : World} (h : Kps S A B) (hs : ∀ k, T k → S k) : Kps T A B := ⟨h.size, fun k hk ht => h.block k hk (hs k ht)⟩
theorem Kps.below {S : Nat → Prop} {A B : World} (h : Below A.heap.size A B) : Kps S A B := ⟨h.size, fun k hk _ => h.block k hk⟩
theorem Kps.grown {S : Nat → Prop} {A B : World} {row : Option Nat} (hg : A.grownBy B row) (hr : ∀ k, row = some k → ¬ S k) : Kps S A B := ⟨hg.size, fun k hk hs => hg.block k hk (fun e => hr k e.symm hs)⟩
def Abd (lo hi : Nat) {β : Type} (J : β → World → Prop) : Prop := ∀ s W W', J s W → Chg lo hi W W' → J s W'

/-- What an iterator promises that lays c cells of its own, from the heap's end on. -/
def Yields {α : Type} (c : Nat) (n : Nat) (P : Program) (gf : Nat) (ba lb : Array Value) (encs : α → Array Value) (S : Nat → Prop) (xs : List α) (W : World) : Prop :=
  ∀ (l : Nat) (J Jx : List α → World → Prop), Abd W.heap.size (W.heap.size + c) J → Abd W.heap.size (W.heap.size + c) Jx →
    (∀ pre x rest W1, xs = pre ++ x :: rest → J pre W1 → W.heap.size + c ≤ W1.heap.size → YieldAt Fence.wide (n - 1) P l (encs x) W1 fun e W' =>
      (e = .returned (.bool true) ∧ J (pre ++ [x]) W' ∧ Kps (fun k => S k ∨ W.heap.size ≤ k ∧ k < W.heap.size + c) W1 W') ∨ (e = .returned (.bool false) ∧ Jx (pre ++ [x]) W')) →
    J [] W →
    CallsIn Fence.wide n P gf (ba ++ #[.func (.yield l) #[] #[]] ++ lb) W fun e W' => (∃ v, e = .returned v) ∧ (J xs W' ∨ ∃ pre rest, xs = pre ++ rest ∧ Jx pre W')

/-- How a round may be left. -/
def rndPost {α : Type} (S : Nat → Prop) (I : List α → World → Prop) (Ix : Code → List α → World → Prop) (xs : List α) (W : World) : Exit → Act → World → Prop
  | .normal, _, W' => Kps S W W' ∧ I xs W'
  | .ret, _, W' => Kps S W W' ∧ Ix .ret xs W'
  | .exit id, _, W' => Kps S W W' ∧ Ix (.exit id) xs W'
  | _, _, _ => False

theorem wpIn_range_own {α : Type} (c : Nat) {n : Nat} {P : Program} {g : Operand} {ps : Array Tmp} {assign body : Code} {Q : Exit → Act → World → Prop} {a : Act} {w : World}
    (h1 : 1 ≤ n) {gf : Nat} {ba lb : Array Value} (hg : a.eval g = .func (.func gf) ba lb) (eg : ∀ args w, (callFunc gf args).run P w = .ok (.enter gf args) w)
    {encs : α → Array Value} (S : Nat → Prop) (xs : List α) (hps : ∀ x, (encs x).size = ps.size)
    (hseq : ∀ W, W.heap.size = w.heap.size + 2 → Below w.heap.size w W → Yields c (n - 1) P gf ba lb encs S xs W)
    (I : List α → World → Prop) (Ix : Code → List α → World → Prop) (hI : Abd w.heap.size (w.heap.size + (c + 2)) I) (hIx : ∀ j, Abd w.heap.size (w.heap.size + (c + 2)) (Ix j)) (h0 : I [] w)
    (hround : ∀ (l : Nat) (pre : List α) (x : α) (rest : List α) (W : World), xs = pre ++ x :: rest → I pre W → w.heap.size + (c + 2) ≤ W.heap.size →
      assign.wpIn (Fence.wide.inRound l) (n - 1 - 1) P (Exit.then (fun a₁ w₁ => Kps (fun k => S k ∨ w.heap.size ≤ k ∧ k < w.heap.size + (c + 2)) W w₁ ∧
        ∀ w₂, Chg (w.heap.size + 1) (w.heap.size + 2) w₁ w₂ → w₂.heap.size = w₁.heap.size → body.wpIn (Fence.wide.inRound l) (n - 1 - 1) P (rndPost (fun k => S k ∨ w.heap.size ≤ k ∧ k < w.heap.size + (c + 2)) I Ix (pre ++ [x]) w₂) a₁ w₂) (fun _ _ _ => False))
        { tmps := (ps.zip (encs x)).foldl (fun t (p, v) => t.setIfInBounds p v) a.tmps, defers := [] } W)
    (hS : ∀ k, S k → k < w.heap.size)
    (hdone : ∀ W, I xs W → W.heap[w.heap.size]? = some (.deferred (some [])) → Q .normal { a with defers := { target := .collected w.heap.size, args := #[] } :: a.defers } W)
    (hstop : ∀ (j : Code) (pre rest : List α) (W : World), xs = pre ++ rest → Ix j pre W → W.heap[w.heap.size]? = some (.deferred (some [])) → j.wpIn Fence.wide n P Q { a with defers := { target := .collected w.heap.size, args := #[] } :: a.defers } W) :
    (Code.rangeFunc g ps assign body).wpIn Fence.wide n P Q a w := by
  refine wpIn_rangeFunc ?_
  intro fn hfn
  obtain ⟨rec, hrec⟩ : ∃ rec : LoopState → Option Code → Loop, rec = fun st pe => { state := st, pending := pe, fn, tmps := a.tmps, params := ps, assign, body, defers := w.heap.size } := ⟨_, rfl⟩
  obtain ⟨W1, hW1⟩ : ∃ W1, (w.alloc (.deferred (some []))).alloc (.loop (rec .ready none)) = W1 := ⟨_, rfl⟩
  have hL1 : W1.heap[w.heap.size + 1]? = some (.loop (rec .ready none)) := by
    rw [← hW1]; have := World.alloc_heap_new (w.alloc (.deferred (some []))) (.loop (rec .ready none)); rwa [World.size_alloc] at this
  have hK1 : W1.heap[w.heap.size]? = some (.deferred (some [])) := by
    rw [← hW1]; exact (Below.heap_alloc _ _ _ (by simp)).trans (World.alloc_heap_new w _)
  have hI1 : I [] W1 := by rw [← hW1]; exact hI _ _ _ h0 ((Chg.alloc _ _).trans (Chg.alloc _ _))
  have hb1 : Below w.heap.size w W1 := by
    rw [← hW1]; exact ((Below.refl _ w).alloc (Nat.le_refl _) _).alloc (by simp) _
  have hs1 : W1.heap.size = w.heap.size + 2 := by rw [← hW1]; simp
  refine ⟨w.heap.size + 1, [{ target := .collected w.heap.size, args := #[] }], W1, { target := .fn (.func gf) lb, args := ba ++ #[.func (.yield (w.heap.size + 1)) #[] #[]] }, W1, gf,
    ba ++ #[.func (.yield (w.heap.size + 1)) #[] #[]] ++ lb, W1, ?_, ?_, ?_, ?_, fun _ => h1, ?_⟩
  · rw [← hW1, hrec]; exact run_enterLoop_outer _ _ _ _ _
  · simp only [resolve, hg]
    simp [go_sem]
  · intro f' hf'; trivial
  · simp [invoke, go_sem, eg]
  · refine (hseq W1 hs1 hb1 (w.heap.size + 1)
      (fun pre W => I pre W ∧ W.heap[w.heap.size + 1]? = some (.loop (rec .ready none)) ∧ W.heap[w.heap.size]? = some (.deferred (some [])))
      (fun pre W => ∃ j, Ix j pre W ∧ W.heap[w.heap.size + 1]? = some (.loop (rec .done (some j))) ∧ W.heap[w.heap.size]? = some (.deferred (some [])))
      (fun s A B hs hc => by
        rw [hs1] at hc
        have l1 := (Array.getElem?_eq_some_iff.1 hs.2.1).1
        exact ⟨hI _ _ _ hs.1 (hc.wide (by omega) (by omega)), (hc.block _ l1 (.inl (by omega))).trans hs.2.1, (hc.block _ (by omega) (.inl (by omega))).trans hs.2.2⟩)
      (fun s A B hs hc => by
        obtain ⟨j, hs⟩ := hs
        rw [hs1] at hc
        have l1 := (Array.getElem?_eq_some_iff.1 hs.2.1).1
        exact ⟨j, hIx _ _ _ _ hs.1 (hc.wide (by omega) (by omega)), (hc.block _ l1 (.inl (by omega))).trans hs.2.1, (hc.block _ (by omega) (.inl (by omega))).trans hs.2.2⟩)
      ?_ ⟨hI1, hL1, hK1⟩).mono ?_
    · rintro pre x rest W hxs ⟨hi, hl, hk⟩ hsz
      rw [hs1] at hsz ⊢
      have hy := run_yield (P := P) (args := encs x) hl (by rw [hrec]; exact hps x)
      rw [hrec] at hy
      refine ⟨fn, _, assign, body, hy, roundIn_of_wpIn trivial ?_⟩
      clear hy
      refine wpIn_mono (hround _ pre x rest W hxs hi (by omega)) ?_
      rintro e a1 W2 hp
      cases e with
      | normal =>
        obtain ⟨hk2, hb⟩ := hp
        have hl2 := (hk2.block _ (by omega) (.inr ⟨by omega, by omega⟩)).trans hl
        have hd2 := (hk2.block _ (by omega) (.inr ⟨by omega, by omega⟩)).trans hk
        have hz2 := hk2.size
        refine ⟨_, run_beginRound hl2 (by rw [hrec]), ?_⟩
        have hc3 : Chg (w.heap.size + 1) (w.heap.size + 2) W2 (W2.putObj (w.heap.size + 1) (.loop { rec .ready none with state := .busy })) := Chg.obj _ _ (Nat.le_refl _) (by omega)
        have hl3 : (W2.putObj (w.heap.size + 1) (.loop { rec .ready none with state := .busy })).heap[w.heap.size + 1]? = some (.loop { rec .ready none with state := .busy }) := World.putObj_heap_same (by omega)
        have hd3 : (W2.putObj (w.heap.size + 1) (.loop { rec .ready none with state := .busy })).heap[w.heap.size]? = some (.deferred (some [])) := (World.putObj_heap_other (by omega)).trans hd2
        refine wpIn_mono (hb _ hc3 (by simp)) ?_
        obtain ⟨W3, hW3⟩ : ∃ W3, W3 = W2.putObj (w.heap.size + 1) (.loop { rec .ready none with state := .busy }) := ⟨_, rfl⟩
        rw [← hW3] at hl3 hd3 hc3 ⊢
        have hz3 := hc3.size
        have fin : ∀ (jump : Option Code) (W4 : World), Kps (fun k => S k ∨ w.heap.size ≤ k ∧ k < w.heap.size + (c + 2)) W3 W4 →
            (Instr.endRound (w.heap.size + 1) jump).run P W4 = .ok (.bool jump.isNone) (W4.putObj (w.heap.size + 1) (.loop (rec (if jump.isNone then .ready else .done) jump))) ∧
            (W4.putObj (w.heap.size + 1) (.loop (rec (if jump.isNone then .ready else .done) jump))).heap[w.heap.size + 1]? = some (.loop (rec (if jump.isNone then .ready else .done) jump)) ∧
            (W4.putObj (w.heap.size + 1) (.loop (rec (if jump.isNone then .ready else .done) jump))).heap[w.heap.size]? = some (.deferred (some [])) := fun jump W4 hk4 => by
          have hl4 := (hk4.block _ (by omega) (.inr ⟨by omega, by omega⟩)).trans hl3
          have hd4 := (hk4.block _ (by omega) (.inr ⟨by omega, by omega⟩)).trans hd3
          have hz4 := hk4.size
          have := run_endRound (P := P) jump hl4
          rw [hrec] at this ⊢
          exact ⟨this, World.putObj_heap_same (by omega), (World.putObj_heap_other (by omega)).trans hd4⟩
        have hkk : ∀ (o : Obj) (W4 : World), Kps (fun k => S k ∨ w.heap.size ≤ k ∧ k < w.heap.size + (c + 2)) W3 W4 → Kps (fun k => S k ∨ w.heap.size + 2 ≤ k ∧ k < w.heap.size + 2 + c) W (W4.putObj (w.heap.size + 1) o) := fun o W4 hk4 => by
          refine ⟨by have := hk4.size; simp; omega, fun k hk hs => ?_⟩
          have hne : k ≠ w.heap.size + 1 := by
            rcases hs with hs | hs
            · have := hS k hs; omega
            · omega
          have hs' : S k ∨ w.heap.size ≤ k ∧ k < w.heap.size + (c + 2) := by
            rcases hs with hs | hs
            · exact .inl hs
            · exact .inr ⟨by omega, by omega⟩
          rw [World.putObj_heap_other hne, hk4.block k (by omega) hs', hW3, World.putObj_heap_other hne]
          exact hk2.block k hk hs'
        rintro e a3 W4 hp
        cases e with
        | normal =>
          obtain ⟨hk4, hi4⟩ := hp
          obtain ⟨hr, hl4, hd4⟩ := fin none W4 hk4
          exact ⟨_, _, hr, .inl ⟨rfl, ⟨hI _ _ _ hi4 (Chg.obj _ _ (by omega) (by omega)), hl4, hd4⟩, hkk _ _ hk4⟩⟩
        | ret =>
          obtain ⟨hk4, hi4⟩ := hp
          obtain ⟨hr, hl4, hd4⟩ := fin (some .ret) W4 hk4
          exact ⟨_, _, hr, .inr ⟨rfl, _, hIx _ _ _ _ hi4 (Chg.obj _ _ (by omega) (by omega)), hl4, hd4⟩⟩
        | exit id =>
          obtain ⟨hk4, hi4⟩ := hp
          obtain ⟨hr, hl4, hd4⟩ := fin (some (.exit id)) W4 hk4
          exact ⟨_, _, hr, .inr ⟨rfl, _, hIx _ _ _ _ hi4 (Chg.obj _ _ (by omega) (by omega)), hl4, hd4⟩⟩
        | goto t => exact hp.elim
        | panic ch => exact hp.elim
        | outgrown => exact hp.elim
      | exit id => exact hp.elim
      | goto t => exact hp.elim
      | ret => exact hp.elim
      | panic ch => exact hp.elim
      | outgrown => exact hp.elim
    · rintro e W2 ⟨⟨v, rfl⟩, (⟨hi, hl, hk⟩ | ⟨pre, rest, hxs, j, hi, hl, hk⟩)⟩
      · exact ⟨none, _, by have := run_endLoop (P := P) hl (by rw [hrec]; simp); rw [hrec] at this; exact this, hdone _ (hI _ _ _ hi (Chg.obj _ _ (by omega) (by omega))) ((World.putObj_heap_other (by omega)).trans hk)⟩
      · exact ⟨some j, _, by have := run_endLoop (P := P) hl (by rw [hrec]; simp); rw [hrec] at this; exact this, hstop j pre rest _ hxs (hIx _ _ _ _ hi (Chg.obj _ _ (by omega) (by omega))) ((World.putObj_heap_other (by omega)).trans hk)⟩
end Go.Proofs.Ytfkcogocaecodaa
namespace Go.Proofs.Ytfkcogocaecodaa
open Go.RowKit
set_option linter.unusedVariables false
set_option linter.unusedSimpArgs false

/-- The blocks of S lie as they lay, and nothing was written out. -/
structure Kpo (S : Nat → Prop) (W W' : World) : Prop extends Kps S W W' where
  os : W'.os = W.os
  tape : W'.tape = W.tape
  output : W'.output = W.output
theorem Kpo.refl (S : Nat → Prop) (W : World) : Kpo S W W := ⟨Kps.refl S W, rfl, rfl, rfl⟩
theorem Kpo.less {S T : Nat → Prop} {A B : World} (h : Kpo S A B) (hs : ∀ k, T k → S k) : Kpo T A B := ⟨h.toKps.less hs, h.os, h.tape, h.output⟩
theorem Kpo.of {S : Nat → Prop} {A B : World} (h : Below A.heap.size A B) : Kpo S A B := ⟨Kps.below h, h.os, h.tape, h.output⟩
/-- How a round may be left. -/
def rndPosto {α : Type} (S T : Nat → Prop) (I : List α → World → Prop) (Ix : Code → List α → World → Prop) (xs : List α) (W : World) : Exit → Act → World → Prop
  | .normal, _, W' => Kpo S W W' ∧ I xs W'
  | .ret, _, W' => Kpo T W W' ∧ Ix .ret xs W'
  | .exit id, _, W' => Kpo T W W' ∧ Ix (.exit id) xs W'
  | _, _, _ => False

/-- What an iterator promises that turns nothing but blocks of its own, from the heap's end on; what it yields meets R. -/
def YieldsB {α : Type} (n : Nat) (P : Program) (gf : Nat) (ba lb : Array Value) (R : Nat → α → World → Array Value → Prop) (S : Nat → Prop) (xs : List α) (W : World) : Prop :=
  ∀ (l : Nat) (J Jx : List α → World → Prop), (∀ s A B, J s A → W.heap.size ≤ A.heap.size → Below W.heap.size A B → J s B) → (∀ s A B, Jx s A → Below A.heap.size A B → Jx s B) →
    (∀ pre x rest W1 vs, xs = pre ++ x :: rest → J pre W1 → W.heap.size ≤ W1.heap.size → R pre.length x W1 vs → YieldAt Fence.wide (n - 1) P l vs W1 fun e W' =>
      (e = .returned (.bool true) ∧ J (pre ++ [x]) W' ∧ Kpo (fun k => S k ∨ W.heap.size ≤ k) W1 W') ∨ (e = .returned (.bool false) ∧ Jx (pre ++ [x]) W')) →
    J [] W →
    CallsIn Fence.wide n P gf (ba ++ #[.func (.yield l) #[] #[]] ++ lb) W fun e W' => (∃ v, e = .returned v) ∧ (J xs W' ∨ ∃ pre rest, xs = pre ++ rest ∧ Jx pre W')
theorem Below.less {B C : Nat} {A A' : World} (h : Below B A A') (hc : C ≤ B) : Below C A A' := ⟨h.os, h.tape, h.output, h.size, fun k hk => h.block k (by omega)⟩
theorem Chg.of {lo hi : Nat} {A B : World} (h : Below A.heap.size A B) : Chg lo hi A B := ⟨h.os, h.tape, h.output, h.size, fun k hk _ => h.block k hk⟩
theorem Chg.below' {lo hi : Nat} {A B : World} (h : Chg lo hi A B) (hs : lo ≤ A.heap.size) : Below lo A B := ⟨h.os, h.tape, h.output, h.size, fun k hk => h.block k (by omega) (.inl hk)⟩

theorem wpIn_range_far {α : Type} {n : Nat} {P : Program} {g : Operand} {ps : Array Tmp} {assign body : Code} {Q : Exit → Act → World → Prop} {a : Act} {w : World}
    (h1 : 1 ≤ n) {gf : Nat} {ba lb : Array Value} (hg : a.eval g = .func (.func gf) ba lb) (eg : ∀ args w, (callFunc gf args).run P w = .ok (.enter gf args) w)
    {R : Nat → α → World → Array Value → Prop} (S : Nat → Prop) (xs : List α) (hps : ∀ i x W vs, R i x W vs → vs.size = ps.size)
    (hseq : ∀ W, W.heap.size = w.heap.size + 2 → Below w.heap.size w W → YieldsB (n - 1) P gf ba lb R S xs W)
    (I : List α → World → Prop) (Ix : Code → List α → World → Prop) (hI : ∀ s A B, I s A → w.heap.size ≤ A.heap.size → Below w.heap.size A B → I s B) (hIx : ∀ j, Abd w.heap.size (w.heap.size + 2) (Ix j)) (h0 : I [] w)
    (hround : ∀ (l : Nat) (pre : List α) (x : α) (rest : List α) (W : World) (vs : Array Value), xs = pre ++ x :: rest → I pre W → w.heap.size + 2 ≤ W.heap.size → R pre.length x W vs →
      assign.wpIn (Fence.wide.inRound l) (n - 1 - 1) P (Exit.then (fun a₁ w₁ => Kpo (fun k => S k ∨ w.heap.size ≤ k) W w₁ ∧
        ∀ w₂, Chg (w.heap.size + 1) (w.heap.size + 2) w₁ w₂ → w₂.heap.size = w₁.heap.size → body.wpIn (Fence.wide.inRound l) (n - 1 - 1) P (rndPosto (fun k => S k ∨ w.heap.size ≤ k) (fun k => w.heap.size ≤ k) I Ix (pre ++ [x]) w₂) a₁ w₂) (fun _ _ _ => False))
        { tmps := (ps.zip vs).foldl (fun t (p, v) => t.setIfInBounds p v) a.tmps, defers := [] } W)
    (hS : ∀ k, S k → k < w.heap.size)
    (hdone : ∀ W, I xs W → W.heap[w.heap.size]? = some (.deferred (some [])) → Q .normal { a with defers := { target := .collected w.heap.size, args := #[] } :: a.defers } W)
    (hstop : ∀ (j : Code) (pre rest : List α) (W : World), xs = pre ++ rest → Ix j pre W → W.heap[w.heap.size]? = some (.deferred (some [])) → j.wpIn Fence.wide n P Q { a with defers := { target := .collected w.heap.size, args := #[] } :: a.defers } W) :
    (Code.rangeFunc g ps assign body).wpIn Fence.wide n P Q a w := by
  refine wpIn_rangeFunc ?_
  intro fn hfn
  obtain ⟨rec, hrec⟩ : ∃ rec : LoopState → Option Code → Loop, rec = fun st pe => { state := st, pending := pe, fn, tmps := a.tmps, params := ps, assign, body, defers := w.heap.size } := ⟨_, rfl⟩
  obtain ⟨W1, hW1⟩ : ∃ W1, (w.alloc (.deferred (some []))).alloc (.loop (rec .ready none)) = W1 := ⟨_, rfl⟩
  have hL1 : W1.heap[w.heap.size + 1]? = some (.loop (rec .ready none)) := by
    rw [← hW1]; have := World.alloc_heap_new (w.alloc (.deferred (some []))) (.loop (rec .ready none)); rwa [World.size_alloc] at this
  have hK1 : W1.heap[w.heap.size]? = some (.deferred (some [])) := by
    rw [← hW1]; exact (Below.heap_alloc _ _ _ (by simp)).trans (World.alloc_heap_new w _)
  have hI1 : I [] W1 := by rw [← hW1]; exact hI _ _ _ h0 (Nat.le_refl _) (((Below.refl _ w).alloc (Nat.le_refl _) _).alloc (by simp) _)
  have hb1 : Below w.heap.size w W1 := by
    rw [← hW1]; exact ((Below.refl _ w).alloc (Nat.le_refl _) _).alloc (by simp) _
  have hs1 : W1.heap.size = w.heap.size + 2 := by rw [← hW1]; simp
  refine ⟨w.heap.size + 1, [{ target := .collected w.heap.size, args := #[] }], W1, { target := .fn (.func gf) lb, args := ba ++ #[.func (.yield (w.heap.size + 1)) #[] #[]] }, W1, gf,
    ba ++ #[.func (.yield (w.heap.size + 1)) #[] #[]] ++ lb, W1, ?_, ?_, ?_, ?_, fun _ => h1, ?_⟩
  · rw [← hW1, hrec]; exact run_enterLoop_outer _ _ _ _ _
  · simp only [resolve, hg]
    simp [go_sem]
  · intro f' hf'; trivial
  · simp [invoke, go_sem, eg]
  · refine (hseq W1 hs1 hb1 (w.heap.size + 1)
      (fun pre W => I pre W ∧ W.heap[w.heap.size + 1]? = some (.loop (rec .ready none)) ∧ W.heap[w.heap.size]? = some (.deferred (some [])))
      (fun pre W => ∃ j, Ix j pre W ∧ W.heap[w.heap.size + 1]? = some (.loop (rec .done (some j))) ∧ W.heap[w.heap.size]? = some (.deferred (some [])))
      (fun s A B hs hz hc => by
        rw [hs1] at hc hz
        have l1 := (Array.getElem?_eq_some_iff.1 hs.2.1).1
        exact ⟨hI _ _ _ hs.1 (by omega) (Below.less hc (by omega)), (hc.block _ (by omega)).trans hs.2.1, (hc.block _ (by omega)).trans hs.2.2⟩)
      (fun s A B hs hc => by
        obtain ⟨j, hs⟩ := hs
        have l1 := (Array.getElem?_eq_some_iff.1 hs.2.1).1
        exact ⟨j, hIx _ _ _ _ hs.1 (Chg.of hc), (hc.block _ l1).trans hs.2.1, (hc.block _ (by omega)).trans hs.2.2⟩)
      ?_ ⟨hI1, hL1, hK1⟩).mono ?_
    · rintro pre x rest W vs hxs ⟨hi, hl, hk⟩ hsz hR
      rw [hs1] at hsz ⊢
      have hy := run_yield (P := P) (args := vs) hl (by rw [hrec]; exact hps _ _ _ _ hR)
      rw [hrec] at hy
      refine ⟨fn, _, assign, body, hy, roundIn_of_wpIn trivial ?_⟩
      clear hy
      refine wpIn_mono (hround _ pre x rest W vs hxs hi (by omega) hR) ?_
      rintro e a1 W2 hp
      cases e with
      | normal =>
        obtain ⟨hk2, hb⟩ := hp
        have hl2 := (hk2.block _ (by omega) (.inr (by omega))).trans hl
        have hd2 := (hk2.block _ (by omega) (.inr (by omega))).trans hk
        have hz2 := hk2.size
        refine ⟨_, run_beginRound hl2 (by rw [hrec]), ?_⟩
        have hc3 : Chg (w.heap.size + 1) (w.heap.size + 2) W2 (W2.putObj (w.heap.size + 1) (.loop { rec .ready none with state := .busy })) := Chg.obj _ _ (Nat.le_refl _) (by omega)
        have hl3 : (W2.putObj (w.heap.size + 1) (.loop { rec .ready none with state := .busy })).heap[w.heap.size + 1]? = some (.loop { rec .ready none with state := .busy }) := World.putObj_heap_same (by omega)
        have hd3 : (W2.putObj (w.heap.size + 1) (.loop { rec .ready none with state := .busy })).heap[w.heap.size]? = some (.deferred (some [])) := (World.putObj_heap_other (by omega)).trans hd2
        refine wpIn_mono (hb _ hc3 (by simp)) ?_
        obtain ⟨W3, hW3⟩ : ∃ W3, W3 = W2.putObj (w.heap.size + 1) (.loop { rec .ready none with state := .busy }) := ⟨_, rfl⟩
        rw [← hW3] at hl3 hd3 hc3 ⊢
        have hz3 := hc3.size
        have fin : ∀ (jump : Option Code) (W4 : World), Kpo (fun k => w.heap.size ≤ k) W3 W4 →
            (Instr.endRound (w.heap.size + 1) jump).run P W4 = .ok (.bool jump.isNone) (W4.putObj (w.heap.size + 1) (.loop (rec (if jump.isNone then .ready else .done) jump))) ∧
            (W4.putObj (w.heap.size + 1) (.loop (rec (if jump.isNone then .ready else .done) jump))).heap[w.heap.size + 1]? = some (.loop (rec (if jump.isNone then .ready else .done) jump)) ∧
            (W4.putObj (w.heap.size + 1) (.loop (rec (if jump.isNone then .ready else .done) jump))).heap[w.heap.size]? = some (.deferred (some [])) := fun jump W4 hk4 => by
          have hl4 := (hk4.block _ (by omega) (by omega)).trans hl3
          have hd4 := (hk4.block _ (by omega) (by omega)).trans hd3
          have hz4 := hk4.size
          have := run_endRound (P := P) jump hl4
          rw [hrec] at this ⊢
          exact ⟨this, World.putObj_heap_same (by omega), (World.putObj_heap_other (by omega)).trans hd4⟩
        have hkk : ∀ (o : Obj) (W4 : World), Kpo (fun k => S k ∨ w.heap.size ≤ k) W3 W4 → Kpo (fun k => S k ∨ w.heap.size + 2 ≤ k) W (W4.putObj (w.heap.size + 1) o) := fun o W4 hk4 => by
          refine ⟨⟨by have := hk4.size; simp; omega, fun k hk hs => ?_⟩, ?_, ?_, ?_⟩
          rotate_left
          · show W4.os = W.os; rw [hk4.os, hW3]; exact hk2.os
          · show W4.tape = W.tape; rw [hk4.tape, hW3]; exact hk2.tape
          · show W4.output = W.output; rw [hk4.output, hW3]; exact hk2.output
          have hne : k ≠ w.heap.size + 1 := by
            rcases hs with hs | hs
            · have := hS k hs; omega
            · omega
          have hs' : S k ∨ w.heap.size ≤ k := by
            rcases hs with hs | hs
            · exact .inl hs
            · exact .inr (by omega)
          rw [World.putObj_heap_other hne, hk4.block k (by omega) hs', hW3, World.putObj_heap_other hne]
          exact hk2.block k hk hs'
        rintro e a3 W4 hp
        cases e with
        | normal =>
          obtain ⟨hk4, hi4⟩ := hp
          obtain ⟨hr, hl4, hd4⟩ := fin none W4 (hk4.less fun k h => .inr h)
          exact ⟨_, _, hr, .inl ⟨rfl, ⟨hI _ _ _ hi4 (by have := hk4.size; omega) (Chg.below' (lo := w.heap.size) (hi := w.heap.size + 2) (Chg.obj _ _ (by omega) (by omega)) (by have := hk4.size; omega)), hl4, hd4⟩, hkk _ _ hk4⟩⟩
        | ret =>
          obtain ⟨hk4, hi4⟩ := hp
          obtain ⟨hr, hl4, hd4⟩ := fin (some .ret) W4 hk4
          exact ⟨_, _, hr, .inr ⟨rfl, _, hIx _ _ _ _ hi4 (Chg.obj _ _ (by omega) (by omega)), hl4, hd4⟩⟩
        | exit id =>
          obtain ⟨hk4, hi4⟩ := hp
          obtain ⟨hr, hl4, hd4⟩ := fin (some (.exit id)) W4 hk4
          exact ⟨_, _, hr, .inr ⟨rfl, _, hIx _ _ _ _ hi4 (Chg.obj _ _ (by omega) (by omega)), hl4, hd4⟩⟩
        | goto t => exact hp.elim
        | panic ch => exact hp.elim
        | outgrown => exact hp.elim
      | exit id => exact hp.elim
      | goto t => exact hp.elim
      | ret => exact hp.elim
      | panic ch => exact hp.elim
      | outgrown => exact hp.elim
    · rintro e W2 ⟨⟨v, rfl⟩, (⟨hi, hl, hk⟩ | ⟨pre, rest, hxs, j, hi, hl, hk⟩)⟩
      · exact ⟨none, _, by have := run_endLoop (P := P) hl (by rw [hrec]; simp); rw [hrec] at this; exact this, hdone _ (hI _ _ _ hi (by have l1 : w.heap.size + 1 < W2.heap.size := (Array.getElem?_eq_some_iff.1 hl).1; omega) (Chg.below' (lo := w.heap.size) (hi := w.heap.size + 2) (Chg.obj _ _ (by omega) (by omega)) (by have l1 : w.heap.size + 1 < W2.heap.size := (Array.getElem?_eq_some_iff.1 hl).1; omega))) ((World.putObj_heap_other (by omega)).trans hk)⟩
      · exact ⟨some j, _, by have := run_endLoop (P := P) hl (by rw [hrec]; simp); rw [hrec] at this; exact this, hstop j pre rest _ hxs (hIx _ _ _ _ hi (Chg.obj _ _ (by omega) (by omega))) ((World.putObj_heap_other (by omega)).trans hk)⟩
end Go.Proofs.Ytfkcogocaecodaa
namespace Go.Proofs.Ytfkcogocaecodaa
open Go.ChangeShapes Go.WideShapes Go.ChangeAt Go.RowKit
set_option linter.unusedVariables false
set_option linter.unusedSimpArgs false

section
variable {P : Program} {ops : Array Oper} {Q : Exit → Act → World → Prop} {md : Region.Mode} {S : World → Prop} {n : Nat}

/-- The state with the variables that are laid so far. -/
def putA (ops : Array Oper) (G : Nat → Option Nat) : List Nat → Act → Act
  | [], a => a
  | j :: A, a => match G j, ops[j]? with
    | some g, some o => (putA ops G A a).put o.dst (.pointer (some ⟨g, 0, none⟩))
    | _, _ => putA ops G A a
/-- The blocks of the variables that are laid so far. -/
def LaysA (zo : Nat → TypeId × Array Value) (B : Nat) (A : List Nat) (G : Nat → Option Nat) (w : World) : Prop :=
  (∀ j ∈ A, ∀ g, G j = some g → B ≤ g ∧ Has w g (zo j).1 (zo j).2) ∧ ∀ i ∈ A, ∀ j ∈ A, i ≠ j → ∀ g h, G i = some g → G j = some h → g ≠ h

theorem putA_look {G : Nat → Option Nat} {o : Oper} (hs : ∀ cs b, o.op ≠ .select cs b) : ∀ {A : List Nat} {a : Act}, (∀ j ∈ A, ∀ x, ops[j]? = some x → x.apart ops o = true) →
    execOp (putA ops G A a).eval o = execOp a.eval o ∧ Region.wanted o (yielded ops (putA ops G A a).tmps) = Region.wanted o (yielded ops a.tmps)
  | [], a, _ => ⟨rfl, rfl⟩
  | j :: A, a, h => by
    have ih := putA_look (G := G) hs (A := A) (a := a) fun k hk => h k (List.mem_cons_of_mem _ hk)
    unfold putA
    split
    · rename_i g x hg hx
      have h1 := (Oper.apart_spec (h j (List.mem_cons_self ..) x hx)).1
      exact ⟨(execOp_put o hs _ _ _ h1).trans ih.1, (wanted_put o _ _ _ h1).trans ih.2⟩
    · exact ih
theorem putA_put {G : Nat → Option Nat} {y : Option Tmp} {v : Value} : ∀ {A : List Nat} {a : Act}, (∀ j ∈ A, ∀ x, ops[j]? = some x → ∀ d, x.dst = some d → y ≠ some d) →
    putA ops G A (a.put y v) = (putA ops G A a).put y v
  | [], a, _ => rfl
  | j :: A, a, h => by
    have ih := putA_put (G := G) (y := y) (v := v) (A := A) (a := a) fun k hk => h k (List.mem_cons_of_mem _ hk)
    unfold putA
    split
    · rename_i g x hg hx
      rw [ih]
      exact (Act.put_comm _ _ _ (h j (List.mem_cons_self ..) x hx)).symm
    · exact ih
theorem putA_defers {G : Nat → Option Nat} (d : Deferred) : ∀ {A : List Nat} {a : Act}, putA ops G A { a with defers := d :: a.defers } = { putA ops G A a with defers := d :: (putA ops G A a).defers }
  | [], a => rfl
  | j :: A, a => by
    have ih := putA_defers (G := G) d (A := A) (a := a)
    unfold putA
    split
    · rw [ih]; exact (Act.put_defers _ _ _ d).symm
    · exact ih
theorem putA_cong {G G' : Nat → Option Nat} : ∀ {A : List Nat} {a : Act}, (∀ j ∈ A, G j = G' j) → putA ops G A a = putA ops G' A a
  | [], a, _ => rfl
  | j :: A, a, h => by
    have ih := putA_cong (A := A) (a := a) fun k hk => h k (List.mem_cons_of_mem _ hk)
    unfold putA
    rw [h j (List.mem_cons_self ..), ih]
theorem putA_more {G : Nat → Option Nat} {j g : Nat} {x : Oper} (hx : ops[j]? = some x) : ∀ {A : List Nat} {a : Act}, j ∈ A → A.Nodup → (∀ i ∈ A, i ≠ j → ∀ y, ops[i]? = some y → ∀ d, y.dst = some d → x.dst ≠ some d) → G j = none →
    putA ops (upd G j (some g)) A a = (putA ops G A a).put x.dst (.pointer (some ⟨g, 0, none⟩))
  | [], a, hj, _, _, _ => by cases hj
  | i :: A, a, hj, hn, h, hG => by
    obtain ⟨hi, hn'⟩ := List.nodup_cons.1 hn
    by_cases hij : i = j
    · subst hij
      have e : putA ops (upd G i (some g)) A a = putA ops G A a := putA_cong fun k hk => upd_other (fun e => hi (e ▸ hk))
      rw [putA, upd_same, hx, putA, hG]
      simp only [e]
    · have hjA : j ∈ A := by
        rcases List.mem_cons.1 hj with e | e
        · exact absurd e.symm hij
        · exact e
      have ih := putA_more (g := g) hx (A := A) (a := a) hjA hn' (fun k hk => h k (List.mem_cons_of_mem _ hk)) hG
      rw [putA, upd_other hij, putA]
      split
      · rename_i g' y hg' hy
        rw [ih]
        exact Act.put_comm _ _ _ (fun d hd e => h i (List.mem_cons_self ..) hij y hy d e hd)
      · exact ih
theorem LaysA.on {zo : Nat → TypeId × Array Value} {B : Nat} {A : List Nat} {G : Nat → Option Nat} {w w' : World} (h : LaysA zo B A G w) (hb : Below w.heap.size w w') : LaysA zo B A G w' :=
  ⟨fun j hj g hg => ⟨(h.1 j hj g hg).1, (h.1 j hj g hg).2.on hb⟩, h.2⟩
theorem LaysA.more {zo : Nat → TypeId × Array Value} {B : Nat} {A : List Nat} {G : Nat → Option Nat} {w : World} (h : LaysA zo B A G w) {j : Nat} (hB : B ≤ w.heap.size) : LaysA zo B A (upd G j (some w.heap.size)) (w.alloc (.cells (zo j).2 (zo j).1)) := by
  refine ⟨fun i hi g hg => ?_, fun i hi k hk hik g g' hg hg' => ?_⟩
  · by_cases e : i = j
    · subst e
      rw [upd_same] at hg; cases hg
      exact ⟨hB, Has.new_ _ _ _⟩
    · rw [upd_other e] at hg
      exact ⟨(h.1 i hi g hg).1, (h.1 i hi g hg).2.on (al1 _ _)⟩
  · by_cases e : i = j
    · subst e
      rw [upd_same] at hg; cases hg
      rw [upd_other (Ne.symm hik)] at hg'
      exact Nat.ne_of_gt (h.1 k hk g' hg').2.size_
    · rw [upd_other e] at hg
      by_cases e' : k = j
      · subst e'
        rw [upd_same] at hg'; cases hg'
        exact Nat.ne_of_lt (h.1 i hi g hg).2.size_
      · rw [upd_other e'] at hg'
        exact h.2 i hi k hk hik g g' hg hg'

/-- What is to be shown of a plan: F is what is to be shown at its end. -/
def wpFree (P : Program) (ops : Array Oper) (Q : Exit → Act → World → Prop) (S : World → Prop) (F : Act → Prop) : List (Oper × Bool) → Act → Prop
  | [], a => F a
  | (o, true) :: p, a => ∃ v, YieldsIf P ops S o v a ∧ wpFree P ops Q S F p (a.put o.dst v)
  | (o, false) :: p, a => ∀ w, S w → if Region.wanted o (yielded ops a.tmps) = true then Oper.wp P o a w (fun a' w' => Below w.heap.size w w' ∧ wpFree P ops Q S F p a') Q else wpFree P ops Q S F p (a.put o.dst undef)

def planF (md : Region.Mode) (ops : Array Oper) (n : Nat) : Nat → List (Nat × Bool) → List Nat → Array Bool → Bool
  | 0, p, rem, listed => p.isEmpty && rem.isEmpty && Region.seqB md ops (ops.size - n) n listed
  | f + 1, [], rem, listed => !rem.isEmpty && !(Region.ready md ops listed).isEmpty && (Region.ready md ops listed).all (fun j => rem.contains j) && rem.all (fun j => decide (j < n) && planF md ops n f [] (rem.erase j) (listed.setIfInBounds j true))
  | f + 1, (i, true) :: p, rem, listed => decide (i < n) && (Region.ready md ops listed).contains i && Region.free md ops listed i && planF md ops n f p rem (listed.setIfInBounds i true)
  | f + 1, (i, false) :: p, rem, listed => decide (i < n) && (Region.ready md ops listed).contains i && (Region.ready md ops listed).all (fun j => j == i || rem.contains j) && planF md ops n f p rem (listed.setIfInBounds i true)
      && rem.all (fun j => decide (j < n) && planF md ops n f ((i, false) :: p) (rem.erase j) (listed.setIfInBounds j true))

/-- Each variable is laid, and by nothing else looked at before its end. -/
def apartB (ops : Array Oper) (n : Nat) (A : List Nat) : Bool :=
  A.all fun j => (List.range n).all fun i => i == j || match ops[j]?, ops[i]? with
    | some x, some y => x.apart ops y
    | _, _ => false
theorem apartB_spec {A : List Nat} (h : apartB ops n A = true) {j i : Nat} (hj : j ∈ A) (hi : i < n) (hne : i ≠ j) {x y : Oper} (hx : ops[j]? = some x) (hy : ops[i]? = some y) : x.apart ops y = true := by
  have h1 := List.all_eq_true.1 (List.all_eq_true.1 h j hj) i (List.mem_range.2 hi)
  simp only [hx, hy, Bool.or_eq_true, beq_iff_eq] at h1
  exact h1.resolve_left hne

theorem upon_putA {G : Nat → Option Nat} {A : List Nat} {o : Oper} {a : Act} {K K' : Act → World → Prop} (hd : ∀ j ∈ A, ∀ x, ops[j]? = some x → ∀ d, x.dst = some d → o.dst ≠ some d)
    (hQ : ∀ c (a : Act) w, Q (.panic c) a w → Q (.panic c) (putA ops G A a) w) (hK : ∀ a' w', K a' w' → K' (putA ops G A a') w') {r : Result Next} (h : o.upon P a K Q r) : o.upon P (putA ops G A a) K' Q r := by
  cases r with
  | ok nx w' =>
    cases nx <;> simp only [Oper.upon] at h ⊢ <;>
      first
        | (rw [← putA_defers, ← putA_put hd]; exact hK _ _ h)
        | (rw [← putA_put hd]; exact hK _ _ h)
        | exact Calls.mono h (fun e w'' he => by cases e <;> first | (simp only at he ⊢; rw [← putA_put hd]; exact hK _ _ he) | exact hQ _ _ _ he | exact he)
        | exact Rows.mono h (fun _ _ he => by rw [← putA_put hd]; exact hK _ _ he)
        | exact h
  | halt x w' => cases x <;> simp only [Oper.upon] at h ⊢ <;> first | exact hQ _ _ _ h | exact h

theorem wpAnyT_free {l : List Oper} {R : List Oper} {A : List Nat} {zo : Nat → TypeId × Array Value} {B : Nat} (hsel : Region.noSelect l.toArray = true)
    (hQ : ∀ c (a : Act) d v w, Q (.panic c) (a.put d v) w ↔ Q (.panic c) a w)
    (hs : Region.sinkB md l.toArray n = true) (hc : Region.chainB md l.toArray n = true) (hn : n < l.length) (hR : R = l.drop n)
    (hap : apartB l.toArray n A = true) (hnd : A.Nodup) (hAn : ∀ j ∈ A, j < n)
    (hA : ∀ j ∈ A, ∀ o, l[j]? = some o → (∀ ys, Region.wanted o ys = true) ∧ ∀ (a : Act) (w : World), (execOp a.eval o).run P w = .ok (.value (.pointer (some ⟨w.heap.size, 0, none⟩))) (w.alloc (.cells (zo j).2 (zo j).1)))
    (hmono : ∀ W W', S W → Below W.heap.size W W' → S W') (hSB : ∀ W, S W → B ≤ W.heap.size) :
    ∀ (f : Nat) (p : List (Nat × Bool)) (rem : List Nat) (listed : Array Bool) (G : Nat → Option Nat) (a : Act) (w : World), HeadInv md l.toArray n listed → planF md l.toArray n f p rem listed = true →
      (∀ j ∈ rem, j ∈ A) → rem.Nodup → (∀ j ∈ A, G j = none ↔ j ∈ rem) → (∀ x ∈ p, x.1 ∉ A) → S w → LaysA zo B A G w →
      wpFree P l.toArray Q S (fun a' => ∀ (G : Nat → Option Nat) (W : World), (∀ j ∈ A, G j ≠ none) → S W → LaysA zo B A G W → wpList P l.toArray Q R (putA l.toArray G A a') W) (p.filterMap fun x => (l[x.1]?).map fun o => (o, x.2)) a →
      wpAnyT P md l.toArray Q S n (f + R.length) listed (putA l.toArray G A a) w := by
  have hQA : ∀ (G : Nat → Option Nat) (A : List Nat) c (a : Act) w, Q (.panic c) a w → Q (.panic c) (putA l.toArray G A a) w := by
    intro G A c a w h
    induction A with
    | nil => exact h
    | cons j A ih =>
      unfold putA
      split
      · exact (hQ _ _ _ _ _).2 ih
      · exact ih
  have hselo : ∀ (j : Nat) (o : Oper), l[j]? = some o → ∀ cs b, o.op ≠ .select cs b := fun j o h cs b => Region.noSelect_spec hsel j o cs b (by simpa using h)
  -- a variable is laid
  have lay : ∀ (j : Nat) (K : Act → World → Prop) (b : Act) (w : World), j ∈ A → K (b.put ((l.toArray[j]?).bind (·.dst)) (.pointer (some ⟨w.heap.size, 0, none⟩))) (w.alloc (.cells (zo j).2 (zo j).1)) → wpOp P l.toArray Q j K b w := by
    intro j K b w hj h
    have hjl : j < l.length := by have := hAn j hj; omega
    have h0 : l[j]? = some l[j] := List.getElem?_eq_getElem hjl
    have h0' : l.toArray[j]? = some l[j] := by simp [h0]
    obtain ⟨hw, hr⟩ := hA j hj _ h0
    unfold wpOp
    simp only [h0', hw, if_true]
    refine .inl ?_
    unfold Oper.wp
    rw [hr, Oper.upon_value]
    simpa [h0'] using h
  intro f
  induction f with
  | zero =>
    intro p rem listed G a w inv hB hrA hrn hG hpA hS hL h
    simp only [planF, Bool.and_eq_true, List.isEmpty_iff] at hB
    obtain ⟨⟨rfl, rfl⟩, hseq⟩ := hB
    simp only [List.filterMap_nil, wpFree] at h
    have hd : R.length = l.toArray.size - n := by rw [hR]; simp
    have := wpAnyT_of_seq (P := P) (Q := Q) (S := S) (n := n) (md := md) (ops := l.toArray) R n listed _ w (Nat.le_refl _) (fun j => by simp [hR, List.getElem?_drop]) (by rw [hd]; exact hseq) (h G w (fun j hj e => by have := (hG j hj).1 e; cases this) hS hL)
    simpa using this
  | succ f ih =>
    intro p rem listed G a w inv hB hrA hrn hG hpA hS hL h
    have put_eq : ∀ j ∈ A, G j = none → ∀ g, (putA l.toArray G A a).put ((l.toArray[j]?).bind (·.dst)) (.pointer (some ⟨g, 0, none⟩)) = putA l.toArray (upd G j (some g)) A a := by
      intro j hj hGj g
      have hjl : j < l.length := by have := hAn j hj; omega
      have h0' : l.toArray[j]? = some l[j] := by simp [List.getElem?_eq_getElem hjl]
      rw [putA_more h0' hj hnd (fun i hi hij y hy d hd => (Oper.apart_spec (apartB_spec hap hi (hAn j hj) (Ne.symm hij) hy h0')).2.1 d hd) hGj]
      simp [h0']
    have step : ∀ j ∈ rem, ∀ (p' : List (Nat × Bool)), (∀ x ∈ p', x.1 ∉ A) → j ∈ Region.ready md l.toArray listed → planF md l.toArray n f p' (rem.erase j) (listed.setIfInBounds j true) = true →
        wpFree P l.toArray Q S (fun a' => ∀ (G : Nat → Option Nat) (W : World), (∀ j ∈ A, G j ≠ none) → S W → LaysA zo B A G W → wpList P l.toArray Q R (putA l.toArray G A a') W) (p'.filterMap fun x => (l[x.1]?).map fun o => (o, x.2)) a →
        wpOp P l.toArray Q j (fun a' w' => (j < n → S w') ∧ wpAnyT P md l.toArray Q S n (f + R.length) (listed.setIfInBounds j true) a' w') (putA l.toArray G A a) w := by
      intro j hj p' hp' hr hB' h'
      have hjA := hrA j hj
      have hGj := (hG j hjA).2 hj
      refine lay j _ _ _ hjA ?_
      have hS' := hmono _ _ hS (al1 w (.cells (zo j).2 (zo j).1))
      rw [put_eq j hjA hGj]
      refine ⟨fun _ => hS', ih p' (rem.erase j) _ _ a _ (inv.set hr (hAn j hjA)) hB' (fun i hi => hrA i (List.mem_of_mem_erase hi)) (hrn.erase j) (fun i hi => ?_) hp' hS' (hL.more (hSB _ hS)) h'⟩
      by_cases e : i = j
      · subst e
        rw [upd_same]
        simp [hrn.mem_erase_iff]
      · rw [upd_other e, hG i hi, hrn.mem_erase_iff]
        exact ⟨fun h => ⟨e, h⟩, fun h => h.2⟩
    rw [show f + 1 + R.length = (f + R.length) + 1 by omega]
    match p, hB, h, hpA with
    | [], hB, h, hpA =>
      simp only [planF, Bool.and_eq_true, Bool.not_eq_true', List.all_eq_true] at hB
      obtain ⟨⟨⟨-, h1⟩, h2⟩, h3⟩ := hB
      refine ⟨fun e => (by rw [e] at h1; cases h1), fun j hj => ?_⟩
      have hjr : j ∈ rem := by simpa using h2 j hj
      have := h3 j hjr
      exact step j hjr [] (fun x hx => by cases hx) hj this.2 h
    | (i, true) :: p, hB, h, hpA =>
      simp only [planF, Bool.and_eq_true, decide_eq_true_eq] at hB
      obtain ⟨⟨⟨hin, hr⟩, hf⟩, hB'⟩ := hB
      have hr' : i ∈ Region.ready md l.toArray listed := by simpa using hr
      have hil : i < l.length := by omega
      have h0 : l[i]? = some l[i] := List.getElem?_eq_getElem hil
      have h0' : l.toArray[i]? = some l[i] := by simp [h0]
      have hiA : i ∉ A := hpA (i, true) (List.mem_cons_self ..)
      have hsp : ∀ j ∈ A, ∀ x, l.toArray[j]? = some x → x.apart l.toArray l[i] = true := fun j hj x hx => apartB_spec hap hj hin (fun e => hiA (e ▸ hj)) hx h0'
      simp only [List.filterMap_cons, h0, Option.map_some, wpFree] at h
      obtain ⟨v, hy, hK⟩ := h
      have hlook := putA_look (G := G) (a := a) (hselo i _ h0) hsp
      have hy' : YieldsIf P l.toArray S l[i] v (putA l.toArray G A a) := hy.of_same hlook.1 hlook.2
      refine wpAnyT_first h0' (Region.noSelect_spec hsel) (fun c a w hq => (hQ c a _ v w).1 hq) hs hc (by simpa using hn) hin _ listed _ w inv (Region.free_spec h0' hf) hr' hy' hS ?_
      rw [← putA_put (fun j hj x hx => (Oper.apart_spec (hsp j hj x hx)).2.1)]
      exact ih p rem _ G _ w (inv.set hr' hin) hB' hrA hrn hG (fun x hx => hpA x (List.mem_cons_of_mem _ hx)) hS hL hK
    | (i, false) :: p, hB, h, hpA =>
      simp only [planF, Bool.and_eq_true, decide_eq_true_eq, List.all_eq_true] at hB
      obtain ⟨⟨⟨⟨hin, hr⟩, hall⟩, hB'⟩, hrem⟩ := hB
      have hr' : i ∈ Region.ready md l.toArray listed := by simpa using hr
      have hil : i < l.length := by omega
      have h0 : l[i]? = some l[i] := List.getElem?_eq_getElem hil
      have h0' : l.toArray[i]? = some l[i] := by simp [h0]
      have hiA : i ∉ A := hpA (i, false) (List.mem_cons_self ..)
      have hsp : ∀ j ∈ A, ∀ x, l.toArray[j]? = some x → x.apart l.toArray l[i] = true := fun j hj x hx => apartB_spec hap hj hin (fun e => hiA (e ▸ hj)) hx h0'
      refine ⟨fun e => (by rw [e] at hr'; cases hr'), fun j hj => ?_⟩
      have hjc := hall j hj
      simp only [Bool.or_eq_true, beq_iff_eq] at hjc
      by_cases hji : j = i
      · subst hji
        simp only [List.filterMap_cons, h0, Option.map_some, wpFree] at h
        have hw := h w hS
        have hlook := putA_look (G := G) (a := a) (hselo j _ h0) hsp
        have hdst : ∀ k ∈ A, ∀ x, l.toArray[k]? = some x → ∀ d, x.dst = some d → l[j].dst ≠ some d := fun k hk x hx => (Oper.apart_spec (hsp k hk x hx)).2.1
        have hpA' : ∀ x ∈ p, x.1 ∉ A := fun x hx => hpA x (List.mem_cons_of_mem _ hx)
        unfold wpOp
        simp only [h0']
        rw [hlook.2]
        split at hw
        · rename_i hwt
          rw [if_pos hwt]
          refine .inl ?_
          unfold Oper.wp at hw ⊢
          rw [hlook.1]
          refine upon_putA hdst (hQA G A) (fun a' w' hk => ?_) hw
          exact ⟨fun _ => hmono _ _ hS hk.1, ih p rem _ G a' w' (inv.set hr' hin) hB' hrA hrn hG hpA' (hmono _ _ hS hk.1) (hL.on hk.1) hk.2⟩
        · rename_i hwt
          rw [if_neg hwt, ← putA_put hdst]
          exact ⟨fun _ => hS, ih p rem _ G _ w (inv.set hr' hin) hB' hrA hrn hG hpA' hS hL hw⟩
      · have hjr : j ∈ rem := by simpa using hjc.resolve_left hji
        exact step j hjr _ hpA hj (hrem j hjr).2 h

/-- The beginning. -/
theorem wp_region_free {id : Nat} {a : Act} {w : World} {l : List Oper} (n : Nat) (p : List (Nat × Bool)) (A : List Nat) (zo : Nat → TypeId × Array Value) (B : Nat) (S : World → Prop) (hm : P.follows .mixedOrders = true)
    (hB : (Region.noSelect l.toArray && Region.sinkB .any l.toArray n && Region.chainB .any l.toArray n && decide (n < l.length) && decide (p.length + A.length = n) && apartB l.toArray n A && decide A.Nodup && (A.all fun j => decide (j < n)) && (p.all fun x => !A.contains x.1) && planF .any l.toArray n n p A (Array.replicate l.toArray.size false)) = true)
    (hQ : ∀ c (a : Act) d v w, Q (.panic c) (a.put d v) w ↔ Q (.panic c) a w)
    (hA : ∀ j ∈ A, ∀ o, l[j]? = some o → (∀ ys, Region.wanted o ys = true) ∧ ∀ (a : Act) (w : World), (execOp a.eval o).run P w = .ok (.value (.pointer (some ⟨w.heap.size, 0, none⟩))) (w.alloc (.cells (zo j).2 (zo j).1)))
    (hmono : ∀ W W', S W → Below W.heap.size W W' → S W') (hSB : ∀ W, S W → B ≤ W.heap.size) (hS : S w.drew)
    (h : wpFree P l.toArray Q S (fun a' => ∀ (G : Nat → Option Nat) (W : World), (∀ j ∈ A, G j ≠ none) → S W → LaysA zo B A G W → wpList P l.toArray Q (l.drop n) (putA l.toArray G A a') W) (p.filterMap fun x => (l[x.1]?).map fun o => (o, x.2)) a) : (Code.region id l.toArray true).wp P Q a w := by
  simp only [Bool.and_eq_true, decide_eq_true_eq, List.all_eq_true, Bool.not_eq_true', List.contains_eq_mem, decide_eq_false_iff_not] at hB
  obtain ⟨⟨⟨⟨⟨⟨⟨⟨⟨hsel, hs⟩, hc⟩, hn⟩, hp⟩, hap⟩, hnd⟩, hAn⟩, hpA⟩, hpl⟩ := hB
  have inv0 : HeadInv .any l.toArray n (Array.replicate l.toArray.size false) :=
    ⟨by simp, fun j oj _ hl => (by rw [getD_replicate_false] at hl; cases hl), fun t _ ht => getD_in (by simpa using ht) (getD_replicate_false _ _)⟩
  have e0 : putA l.toArray (fun _ => none) A a = a := by
    clear hA hap hnd hAn hpA hpl hp h
    induction A with
    | nil => rfl
    | cons j A ih => exact ih
  have H := wpAnyT_free (md := .any) (R := l.drop n) (A := A) (zo := zo) (B := B) hsel hQ hs hc hn rfl hap hnd hAn hA hmono hSB n p A _ (fun _ => none) a w.drew inv0 hpl (fun _ h => h) hnd (fun j hj => ⟨fun _ => hj, fun _ => rfl⟩) hpA hS
    ⟨fun j hj g hg => (by cases hg), fun i hi j hj hij g h' hg => (by cases hg)⟩ h
  rw [e0] at H
  have hlen : n + (l.drop n).length = l.toArray.size := by simp; omega
  rw [hlen] at H
  exact wp_region_any hm (wpAny_of_T _ _ _ _ H)

variable {F : Act → Prop} {o : Oper} {p : List (Oper × Bool)} {a : Act}
theorem wpFree_still {v : Value} (hy : YieldsIf P ops S o v a) (h : wpFree P ops Q S F p (a.put o.dst v)) : wpFree P ops Q S F ((o, true) :: p) a := ⟨v, hy, h⟩
theorem wpFree_only (h : ∀ w, S w → ∀ K : Act → World → Prop, Shut (∀ a w', Below w.heap.size w w' → wpFree P ops Q S F p a → K a w') → if Region.wanted o (yielded ops a.tmps) = true then Oper.wp P o a w K Q else K (a.put o.dst undef) w) :
    wpFree P ops Q S F ((o, false) :: p) a := by
  intro w hS
  have h1 := h w hS (fun a' w' => Below w.heap.size w w' ∧ wpFree P ops Q S F p a') (fun a w' hb hW => ⟨hb, hW⟩)
  split
  · rename_i hw; rw [if_pos hw] at h1; exact h1
  · rename_i hw; rw [if_neg hw] at h1; exact h1.2
theorem Env.glue {w0 W : World} {l : List Fb} {g : Nat} {t : TypeId} {cs : Array Value} (h : Env w0 W l) (hg : Has W g t cs) (hb : w0.heap.size ≤ g) (hd : ∀ y ∈ l, y.g < g) : Env w0 W (⟨g, t, cs⟩ :: l) :=
  ⟨h.1, hb, hg, fun y hy => Nat.ne_of_lt (hd y hy), h.2⟩
theorem Env.glue2 {w0 W : World} {l : List Fb} {g g' B : Nat} {t t' : TypeId} {cs cs' : Array Value} (h : Env w0 W l) (hB : w0.heap.size ≤ B) (hd : ∀ y ∈ l, y.g < B) (hg : B ≤ g ∧ Has W g t cs) (hg' : B ≤ g' ∧ Has W g' t' cs') (hne : g ≠ g') : Env w0 W (⟨g, t, cs⟩ :: ⟨g', t', cs'⟩ :: l) :=
  ⟨h.1, Nat.le_trans hB hg.1, hg.2, fun y hy => by
    rcases List.mem_cons.1 hy with rfl | hy
    · exact Ne.symm hne
    · exact Nat.ne_of_lt (Nat.lt_of_lt_of_le (hd y hy) hg.1), Nat.le_trans hB hg'.1, hg'.2, fun y hy => Nat.ne_of_lt (Nat.lt_of_lt_of_le (hd y hy) hg'.1), h.2⟩
theorem LaysA.two {zo : Nat → TypeId × Array Value} {B : Nat} {i j : Nat} {G : Nat → Option Nat} {w : World} (h : LaysA zo B [i, j] G w) (hG : ∀ k ∈ [i, j], G k ≠ none) (hij : i ≠ j) :
    ∃ g g', G i = some g ∧ G j = some g' ∧ (B ≤ g ∧ Has w g (zo i).1 (zo i).2) ∧ (B ≤ g' ∧ Has w g' (zo j).1 (zo j).2) ∧ g ≠ g' := by
  obtain ⟨g, e⟩ := Option.ne_none_iff_exists'.1 (hG i (by simp))
  obtain ⟨g', e'⟩ := Option.ne_none_iff_exists'.1 (hG j (by simp))
  exact ⟨g, g', e, e', h.1 i (by simp) g e, h.1 j (by simp) g' e', h.2 i (by simp) j (by simp) hij g g' e e'⟩
theorem LaysA.one {zo : Nat → TypeId × Array Value} {B : Nat} {i : Nat} {G : Nat → Option Nat} {w : World} (h : LaysA zo B [i] G w) (hG : ∀ k ∈ [i], G k ≠ none) :
    ∃ g, G i = some g ∧ B ≤ g ∧ Has w g (zo i).1 (zo i).2 := by
  obtain ⟨g, e⟩ := Option.ne_none_iff_exists'.1 (hG i (by simp))
  exact ⟨g, e, h.1 i (by simp) g e⟩
theorem wpFree_end (h : F a) : wpFree P ops Q S F [] a := h
end
end Go.Proofs.Ytfkcogocaecodaa
namespace Go.Proofs.Ytfkcogocaecodaa
set_option linter.unusedVariables false
set_option linter.unusedSimpArgs false

section
variable {P : Program} {ops : Array Oper} {Q : Exit → Act → World → Prop} {md : Region.Mode} {S : World → Prop} {n : Nat}
theorem upon_inRound (l : Nat) {o : Oper} {a : Act} {next : Act → World → Prop} : ∀ r, o.upon P a next Q r → o.uponIn (Fence.wide.inRound l) n P a next Q r := by
  intro r h
  cases r with
  | ok x w =>
    cases x with
    | enter f args => exact ⟨fun q => (by cases q), CallsIn.inRound l (callsIn_wide.2 h)⟩
    | row row args => exact ⟨fun q => (by cases q), fun c cs _ => let ⟨v, w', r, s⟩ := h c cs; ⟨v, w', r, stepsIn_wide.2 s⟩⟩
    | value v => exact h
    | skip => exact h
    | defer d => exact h
    | round => exact h.elim
    | _ => exact h.elim
  | halt x w =>
    cases x with
    | panic v => exact h
    | _ => exact h.elim
theorem wpOp_inRound (l : Nat) (hd : ∀ (i : Nat) (o : Oper), ops[i]? = some o → ∀ c, o.op ≠ .defer c) (hlo : ¬ LetsOut Q) {i : Nat} {K K' : Act → World → Prop} (hK : ∀ a w, K a w → K' a w) {a : Act} {w : World} (h : wpOp P ops Q i K a w) : wpOpIn (Fence.wide.inRound l) n P ops Q i K' a w := by
  unfold wpOp at h
  unfold wpOpIn
  cases ho : ops[i]? with
  | none => simp only [ho] at h; exact hK _ _ h
  | some o =>
    simp only [ho] at h ⊢
    split at h
    · rename_i hw
      rw [if_pos hw]
      rcases h with h | ⟨_, h⟩
      · refine Oper.wpIn_mono (K := K) hK ?_
        refine ⟨fun f _ => trivial, ?_⟩
        rw [Oper.semAt_plain _ _ _ (hd i o ho)]
        exact upon_inRound l _ h
      · exact absurd h hlo
    · rename_i hw
      rw [if_neg hw]
      exact ⟨fun f _ => trivial, hK _ _ h⟩
theorem wpAny_inRound (l : Nat) (hd : ∀ (i : Nat) (o : Oper), ops[i]? = some o → ∀ c, o.op ≠ .defer c) (hlo : ¬ LetsOut Q) : ∀ (fuel : Nat) (listed : Array Bool) (a : Act) (w : World), wpAny P md ops Q fuel listed a w → wpAnyIn (Fence.wide.inRound l) n P md ops Q fuel listed a w
  | 0, _, _, _, h => h
  | fuel + 1, listed, a, w, h => ⟨h.1, fun i hi => wpOp_inRound l hd hlo (fun a w q => wpAny_inRound l hd hlo fuel _ a w q) (h.2 i hi)⟩
def noDefer (l : List Oper) : Bool := l.all fun o => match o.op with | .defer _ => false | _ => true
theorem wpIn_region_plan {d id : Nat} {a : Act} {w : World} {l : List Oper} (n : Nat) (p : List (Nat × Bool)) (S : World → Prop) (hm : P.follows .mixedOrders = true) (lp : Nat)
    (hB : (Region.noSelect l.toArray && Region.sinkB .any l.toArray n && Region.chainB .any l.toArray n && decide (n < l.length) && decide (p.length = n) && planB .any l.toArray n p (Array.replicate l.toArray.size false)) = true)
    (hd : noDefer l = true) (hlo : ¬ LetsOut Q)
    (hQ : ∀ c (a : Act) d v w, Q (.panic c) (a.put d v) w → Q (.panic c) a w) (hS : S w.drew)
    (h : wpPlan P l.toArray Q S (l.drop n) (p.filterMap fun x => (l[x.1]?).map fun o => (o, x.2)) a w.drew) : (Code.region id l.toArray true).wpIn (Fence.wide.inRound lp) d P Q a w := by
  simp only [Bool.and_eq_true, decide_eq_true_eq] at hB
  obtain ⟨⟨⟨⟨⟨hsel, hs⟩, hc⟩, hn⟩, hp⟩, hpl⟩ := hB
  have inv0 : HeadInv .any l.toArray n (Array.replicate l.toArray.size false) :=
    ⟨by simp, fun j oj _ hl => (by rw [getD_replicate_false] at hl; cases hl), fun t _ ht => getD_in (by simpa using ht) (getD_replicate_false _ _)⟩
  have H := wpAnyT_of_plan (md := .any) hsel hQ hs hc hn p _ a w.drew inv0 hpl hS h
  have hlen : p.length + (l.drop n).length = l.toArray.size := by simp; omega
  rw [hlen] at H
  refine wpIn_region_any hm (wpAny_inRound lp (fun i o ho c e => ?_) hlo _ _ _ _ (wpAny_of_T _ _ _ _ H))
  have hm : o ∈ l := List.mem_of_getElem? (by simpa using ho)
  have := List.all_eq_true.1 hd o hm
  rw [e] at this; cases this
end
end Go.Proofs.Ytfkcogocaecodaa
namespace Go.Proofs.Ytfkcogocaecodaa
open Go.ChangeShapes Go.WideShapes Go.ChangeAt Go.RowKit
set_option linter.unusedVariables false
set_option linter.unusedSimpArgs false

section
variable {P : Program} {ops : Array Oper} {Q : Exit → Act → World → Prop} {md : Region.Mode} {S : World → Prop} {n : Nat}
theorem upon_wide {o : Oper} {a : Act} {next : Act → World → Prop} : ∀ r, o.upon P a next Q r → o.uponIn Fence.wide n P a next Q r := by
  intro r h
  cases r with
  | ok x w =>
    cases x with
    | enter f args => exact ⟨fun q => (by cases q), callsIn_wide.2 h⟩
    | row row args => exact ⟨fun q => (by cases q), fun c cs _ => let ⟨v, w', r, s⟩ := h c cs; ⟨v, w', r, stepsIn_wide.2 s⟩⟩
    | value v => exact h
    | skip => exact h
    | defer d => exact h
    | round => exact h.elim
    | _ => exact h.elim
  | halt x w =>
    cases x with
    | panic v => exact h
    | _ => exact h.elim
theorem wpOp_wide (hd : ∀ (i : Nat) (o : Oper), ops[i]? = some o → ∀ c, o.op ≠ .defer c) (hlo : ¬ LetsOut Q) {i : Nat} {K K' : Act → World → Prop} (hK : ∀ a w, K a w → K' a w) {a : Act} {w : World} (h : wpOp P ops Q i K a w) : wpOpIn Fence.wide n P ops Q i K' a w := by
  unfold wpOp at h
  unfold wpOpIn
  cases ho : ops[i]? with
  | none => simp only [ho] at h; exact hK _ _ h
  | some o =>
    simp only [ho] at h ⊢
    split at h
    · rename_i hw
      rw [if_pos hw]
      rcases h with h | ⟨_, h⟩
      · refine Oper.wpIn_mono (K := K) hK ?_
        refine ⟨fun f _ => trivial, ?_⟩
        rw [Oper.semAt_plain _ _ _ (hd i o ho)]
        exact upon_wide _ h
      · exact absurd h hlo
    · rename_i hw
      rw [if_neg hw]
      exact ⟨fun f _ => trivial, hK _ _ h⟩
theorem wpAny_wide (hd : ∀ (i : Nat) (o : Oper), ops[i]? = some o → ∀ c, o.op ≠ .defer c) (hlo : ¬ LetsOut Q) : ∀ (fuel : Nat) (listed : Array Bool) (a : Act) (w : World), wpAny P md ops Q fuel listed a w → wpAnyIn Fence.wide n P md ops Q fuel listed a w
  | 0, _, _, _, h => h
  | fuel + 1, listed, a, w, h => ⟨h.1, fun i hi => wpOp_wide hd hlo (fun a w q => wpAny_wide hd hlo fuel _ a w q) (h.2 i hi)⟩
theorem wpIn_region_planW {d id : Nat} {a : Act} {w : World} {l : List Oper} (n : Nat) (p : List (Nat × Bool)) (S : World → Prop) (hm : P.follows .mixedOrders = true)
    (hB : (Region.noSelect l.toArray && Region.sinkB .any l.toArray n && Region.chainB .any l.toArray n && decide (n < l.length) && decide (p.length = n) && planB .any l.toArray n p (Array.replicate l.toArray.size false)) = true)
    (hd : noDefer l = true) (hlo : ¬ LetsOut Q)
    (hQ : ∀ c (a : Act) d v w, Q (.panic c) (a.put d v) w → Q (.panic c) a w) (hS : S w.drew)
    (h : wpPlan P l.toArray Q S (l.drop n) (p.filterMap fun x => (l[x.1]?).map fun o => (o, x.2)) a w.drew) : (Code.region id l.toArray true).wpIn Fence.wide d P Q a w := by
  simp only [Bool.and_eq_true, decide_eq_true_eq] at hB
  obtain ⟨⟨⟨⟨⟨hsel, hs⟩, hc⟩, hn⟩, hp⟩, hpl⟩ := hB
  have inv0 : HeadInv .any l.toArray n (Array.replicate l.toArray.size false) :=
    ⟨by simp, fun j oj _ hl => (by rw [getD_replicate_false] at hl; cases hl), fun t _ ht => getD_in (by simpa using ht) (getD_replicate_false _ _)⟩
  have H := wpAnyT_of_plan (md := .any) hsel hQ hs hc hn p _ a w.drew inv0 hpl hS h
  have hlen : p.length + (l.drop n).length = l.toArray.size := by simp; omega
  rw [hlen] at H
  refine wpIn_region_any hm (wpAny_wide (fun i o ho c e => ?_) hlo _ _ _ _ (wpAny_of_T _ _ _ _ H))
  have hm : o ∈ l := List.mem_of_getElem? (by simpa using ho)
  have := List.all_eq_true.1 hd o hm
  rw [e] at this; cases this
end
end Go.Proofs.Ytfkcogocaecodaa
namespace Go.Proofs.Ytfkcogocaecodaa
open Go.ChangeShapes Go.WideShapes Go.ChangeAt Go.RowKit
set_option linter.unusedVariables false
set_option linter.unusedSimpArgs false

structure Tn where
  x : Int
  y : Int
deriving DecidableEq
def Tn.val (t : Tn) : Value := .agg #[.int .i64 t.x, .int .i64 t.y]
def Tn.cs (t : Tn) : Array Value := #[.int .i64 t.x, .int .i64 t.y]
structure Rn where
  mark : ByteArray
  tn : Tn
  at_ : Pt
  st : Pt
  ct : Int
def Rn.cs (r : Rn) : Array Value := #[.string r.mark, .int .i64 r.tn.x, .int .i64 r.tn.y, .int .i64 r.at_.x, .int .i64 r.at_.y, .int .i64 r.at_.z, .int .i64 r.st.x, .int .i64 r.st.y, .int .i64 r.st.z, .int .i64 r.ct]
def Rn.val (r : Rn) : Value := .agg r.cs
def rc (r : Rn) : List Value := [.string r.mark, .int .i64 r.tn.x, .int .i64 r.tn.y, .int .i64 r.at_.x, .int .i64 r.at_.y, .int .i64 r.at_.z, .int .i64 r.st.x, .int .i64 r.st.y, .int .i64 r.st.z, .int .i64 r.ct]
theorem rcl (r : Rn) : (rc r).length = 10 := rfl
theorem rcs (r : Rn) : r.cs = #[.string r.mark, .int .i64 r.tn.x, .int .i64 r.tn.y, .int .i64 r.at_.x, .int .i64 r.at_.y, .int .i64 r.at_.z, .int .i64 r.st.x, .int .i64 r.st.y, .int .i64 r.st.z, .int .i64 r.ct] := rfl
theorem rvs (r : Rn) : r.val = .agg #[.string r.mark, .int .i64 r.tn.x, .int .i64 r.tn.y, .int .i64 r.at_.x, .int .i64 r.at_.y, .int .i64 r.at_.z, .int .i64 r.st.x, .int .i64 r.st.y, .int .i64 r.st.z, .int .i64 r.ct] := rfl
/-- What holds of each run that comes in. -/
structure Rn.Ok (r : Rn) : Prop where
  nm : r.mark.size ≤ maxLen
  ct : I64 r.ct
  at_ : r.at_.ok
  st : r.st.ok
  tx : I64 r.tn.x
  ty : I64 r.tn.y
theorem lt_of_cell' {w : World} {a : Addr} {v : Value} (h : w.cell? a = some v) : a.block < w.heap.size := by
  rcases Nat.lt_or_ge a.block w.heap.size with k | k
  · exact k
  · rw [World.cell?, Array.getElem?_eq_none k] at h; cases h
theorem cell_later' {w w1 : World} (hb : Below w.heap.size w w1) {a : Addr} {v : Value} (h : w.cell? a = some v) : w1.cell? a = some v := by
  rw [hb.cell (lt_of_cell' h)]; exact h
/-- A run that lies in a row of cells. -/
def Fr10 (w : World) (a : Addr) (r : Rn) : Prop := w.cell? a = some (.string r.mark) ∧ w.cell? ⟨a.block, a.off + 1, none⟩ = some (.int .i64 r.tn.x) ∧ w.cell? ⟨a.block, a.off + 2, none⟩ = some (.int .i64 r.tn.y) ∧ w.cell? ⟨a.block, a.off + 3, none⟩ = some (.int .i64 r.at_.x) ∧ w.cell? ⟨a.block, a.off + 4, none⟩ = some (.int .i64 r.at_.y) ∧ w.cell? ⟨a.block, a.off + 5, none⟩ = some (.int .i64 r.at_.z) ∧ w.cell? ⟨a.block, a.off + 6, none⟩ = some (.int .i64 r.st.x) ∧ w.cell? ⟨a.block, a.off + 7, none⟩ = some (.int .i64 r.st.y) ∧ w.cell? ⟨a.block, a.off + 8, none⟩ = some (.int .i64 r.st.z) ∧ w.cell? ⟨a.block, a.off + 9, none⟩ = some (.int .i64 r.ct)
theorem Fr10.on {w w1 : World} {a : Addr} {r : Rn} (h : Fr10 w a r) (hb : Below w.heap.size w w1) : Fr10 w1 a r := by
  obtain ⟨h0, h1, h2, h3, h4, h5, h6, h7, h8, h9⟩ := h
  exact ⟨cell_later' hb h0, cell_later' hb h1, cell_later' hb h2, cell_later' hb h3, cell_later' hb h4, cell_later' hb h5, cell_later' hb h6, cell_later' hb h7, cell_later' hb h8, cell_later' hb h9⟩
structure Slr (w : World) (p : Option Addr) (l : List Rn) (cap : Nat) : Prop where
  cp : l.length ≤ cap
  mx : l.length ≤ maxLen
  at_ : ∀ k (h : k < l.length), ∃ a, p = some a ∧ Fr10 w (a.add (k * 10)) l[k]
  ok : ∀ r ∈ l, r.Ok
theorem Slr.on {w w1 : World} {p : Option Addr} {l : List Rn} {cap : Nat} (h : Slr w p l cap) (hb : Below w.heap.size w w1) : Slr w1 p l cap :=
  ⟨h.cp, h.mx, fun k hk => let ⟨a, e, f⟩ := h.at_ k hk; ⟨a, e, f.on hb⟩, h.ok⟩
theorem Slr.lit {w : World} {g : Nat} (l : List Rn) {cs : Array Value} (hg : Has w g 30 cs) (hc : cs.toList = l.flatMap rc) (hl : l.length ≤ maxLen) (hk : ∀ r ∈ l, r.Ok) : Slr w (some ⟨g, 0, none⟩) l l.length := by
  have flat : ∀ (l : List Rn) (k : Nat) (hk : k < l.length) (j : Nat), j < 10 → (l.flatMap rc)[k * 10 + j]? = (rc l[k])[j]? := by
    intro l
    induction l with
    | nil => intro k hk; cases hk
    | cons x r ih =>
      intro k hk j hj
      rw [List.flatMap_cons]
      cases k with
      | zero => rw [List.getElem?_append_left (by rw [rcl]; omega), Nat.zero_mul, Nat.zero_add]; rfl
      | succ k =>
        rw [List.getElem?_append_right (by rw [rcl]; omega), rcl, show (k + 1) * 10 + j - 10 = k * 10 + j by omega]
        exact ih k (by simpa using hk) j hj
  refine ⟨Nat.le_refl _, hl, fun k h => ⟨_, rfl, ?_⟩, hk⟩
  have R : ∀ j, j < 10 → w.cell? ⟨g, k * 10 + j, none⟩ = (rc l[k])[j]? := fun j hj => by
    rw [hg.read (k * 10 + j), ← flat l k h j hj, ← hc, Array.getElem?_toList]
  have e : ∀ j : Nat, (⟨(Addr.add ⟨g, 0, none⟩ (k * 10)).block, (Addr.add ⟨g, 0, none⟩ (k * 10)).off + j, none⟩ : Addr) = ⟨g, k * 10 + j, none⟩ := fun j => by simp only [Addr.add]; (split <;> simp) <;> omega
  have e0 : Addr.add ⟨g, 0, none⟩ (k * 10) = ⟨g, k * 10, none⟩ := by simp only [Addr.add]; (split <;> simp) <;> omega
  refine ⟨?_, ?_, ?_, ?_, ?_, ?_, ?_, ?_, ?_, ?_⟩
  · rw [e0]; exact R 0 (by omega)
  · rw [e 1]; exact R 1 (by omega)
  · rw [e 2]; exact R 2 (by omega)
  · rw [e 3]; exact R 3 (by omega)
  · rw [e 4]; exact R 4 (by omega)
  · rw [e 5]; exact R 5 (by omega)
  · rw [e 6]; exact R 6 (by omega)
  · rw [e 7]; exact R 7 (by omega)
  · rw [e 8]; exact R 8 (by omega)
  · rw [e 9]; exact R 9 (by omega)
end Go.Proofs.Ytfkcogocaecodaa
namespace Go.Proofs.Ytfkcogocaecodaa
open Go.ChangeShapes Go.WideShapes Go.ChangeAt Go.RowKit
set_option linter.unusedVariables false
set_option linter.unusedSimpArgs false

theorem own_put {B g n cap s : Nat} {e : TypeId} {w : World} {xs : List Value} (h : w.ownsRow B e s (.slice (some ⟨g, 0, none⟩) n cap) n xs) (j : Nat) (u : Value) : (w.setCell ⟨g, j, none⟩ u).ownsRow B e s (.slice (some ⟨g, 0, none⟩) n cap) n (xs.set j u) := by
  obtain ⟨hl, ⟨h0, -⟩ | ⟨g', cap', cur, e', hB, hg, hn, hm, hs, ht⟩⟩ := h
  · cases h0
  · simp only [Value.slice.injEq, Option.some.injEq, Addr.mk.injEq] at e'
    obtain ⟨⟨rfl, -⟩, -, rfl⟩ := e'
    refine ⟨by simpa using hl, .inr ⟨_, _, cur.setIfInBounds j u, rfl, hB, Has.put_ hg j u, hn, hm, by simpa using hs, ?_⟩⟩
    rw [Array.toList_setIfInBounds, List.take_set, ht]
theorem set3 : ∀ (l : List Pt) (k : Nat) (q : Pt), ((((l.flatMap pc).set (k * 3) (.int .i64 q.x)).set (k * 3 + 1) (.int .i64 q.y)).set (k * 3 + 2) (.int .i64 q.z)) = (l.set k q).flatMap pc
  | [], k, q => by simp
  | x :: r, 0, q => by simp [pc]
  | x :: r, k + 1, q => by
    have ih := set3 r k q
    have e : (k + 1) * 3 = k * 3 + 3 := by omega
    rw [e, List.set_cons_succ, List.flatMap_cons, List.flatMap_cons, ← ih]
    simp [pc]
theorem own_put3 {B g cap n : Nat} {w : World} {l : List Pt} (h : Own pc 24 3 B w (.slice (some ⟨g, 0, none⟩) n cap) l) (hn : l.length = n) (k : Nat) (q : Pt) :
    Own pc 24 3 B (((w.setCell ⟨g, k * 3, none⟩ (.int .i64 q.x)).setCell ⟨g, k * 3 + 1, none⟩ (.int .i64 q.y)).setCell ⟨g, k * 3 + 2, none⟩ (.int .i64 q.z)) (.slice (some ⟨g, 0, none⟩) n cap) (l.set k q) := by
  subst hn
  unfold Own at *
  rw [List.length_set, ← set3]
  exact own_put (own_put (own_put h _ _) _ _) _ _
/-- All points moved. -/
def mvd (s : Pt) (l : List Pt) : List Pt := l.map fun p => adp p s
theorem mvd_len (s : Pt) (l : List Pt) : (mvd s l).length = l.length := by simp [mvd]
/-- The first k of them are moved. -/
def mvk (s : Pt) (l : List Pt) (k : Nat) : List Pt := mvd s (l.take k) ++ l.drop k
theorem mvk_len (s : Pt) (l : List Pt) (k : Nat) : (mvk s l k).length = l.length := by simp [mvk, mvd]; omega
theorem mvk_zero (s : Pt) (l : List Pt) : mvk s l 0 = l := by simp [mvk, mvd]
theorem mvk_all (s : Pt) (l : List Pt) : mvk s l l.length = mvd s l := by simp [mvk]
theorem mvk_at (s : Pt) (l : List Pt) (k : Nat) (h : k < l.length) : (mvk s l k)[k]'(by rw [mvk_len]; exact h) = l[k] := by
  unfold mvk
  have e : (mvd s (l.take k)).length = k := by rw [mvd_len]; simp; omega
  rw [List.getElem_append_right (by omega)]
  simp [e]
theorem mvk_set (s : Pt) (l : List Pt) (k : Nat) (h : k < l.length) : (mvk s l k).set k (adp l[k] s) = mvk s l (k + 1) := by
  unfold mvk
  have e : (mvd s (l.take k)).length = k := by rw [mvd_len]; simp; omega
  have e1 : l.take (k + 1) = l.take k ++ [l[k]] := List.take_succ_eq_append_getElem h
  rw [List.set_append_right _ _ (by omega), e, Nat.sub_self, List.drop_eq_getElem_cons h, List.set_cons_zero, e1]
  unfold mvd
  rw [List.map_append, List.append_assoc]
  rfl
theorem own_cells {B g cap n : Nat} {w : World} {l : List Pt} (h : Own pc 24 3 B w (.slice (some ⟨g, 0, none⟩) n cap) l) (hn : l.length = n) {k : Nat} (hk : k < l.length) :
    (w.cell? ⟨g, k * 3, none⟩ = some (.int .i64 l[k].x) ∧ w.cell? ⟨g, k * 3 + 1, none⟩ = some (.int .i64 l[k].y) ∧ w.cell? ⟨g, k * 3 + 2, none⟩ = some (.int .i64 l[k].z)) ∧
    (w.frozen? ⟨g, k * 3, none⟩ = false ∧ w.frozen? ⟨g, k * 3 + 1, none⟩ = false ∧ w.frozen? ⟨g, k * 3 + 2, none⟩ = false) ∧ B ≤ g ∧ g < w.heap.size := by
  subst hn
  obtain ⟨q, c, e, r⟩ := Own.rd pl h
  obtain ⟨g', e', r⟩ := r k hk
  simp only [Value.slice.injEq] at e
  obtain ⟨rfl, -, -⟩ := e
  simp only [Option.some.injEq, Addr.mk.injEq] at e'
  obtain ⟨rfl, -⟩ := e'
  refine ⟨⟨r 0 (by omega), r 1 (by omega), r 2 (by omega)⟩, ?_⟩
  obtain ⟨hl, ⟨h0, -⟩ | ⟨g', cap', cur, e', hB, hg, hn, hm, hs, ht⟩⟩ := h
  · cases h0
  · simp only [Value.slice.injEq, Option.some.injEq, Addr.mk.injEq] at e'
    obtain ⟨⟨rfl, -⟩, -, rfl⟩ := e'
    have F : Has w g 24 cur := hg
    exact ⟨⟨F.open_ _, F.open_ _, F.open_ _⟩, hB, F.size_⟩
structure StopM (p : Prop) : Prop where
  out : p
set_option maxHeartbeats 8000000 in
set_option maxRecDepth 100000 in
theorem move_71 (m : ByteArray) (g cap : Nat) (l : List Pt) (s : Pt) (B : Nat) (w : World) (hO : Own pc 24 3 B w (.slice (some ⟨g, 0, none⟩) l.length cap) l) (hc : l.length ≤ cap) (hs : ∀ p ∈ l, (adp p s).ok) (hl : l.length ≤ 1000) :
    Calls Try.prog 71 #[.agg #[.string m, .slice (some ⟨g, 0, none⟩) l.length cap], s.val] w fun e w' => e = .returned (.tuple #[]) ∧ Own pc 24 3 B w' (.slice (some ⟨g, 0, none⟩) l.length cap) (mvd s l) ∧ Chg g (g + 1) w w' := by
  have HS := Lib.hid hs
  obtain ⟨sx, sy, sz⟩ := s
  unfold Pt.val
  dsimp only
  have hgw : 0 < l.length → g < w.heap.size := fun h => (own_cells hO rfl h).2.2.2
  have hz1 : (w.alloc (.cells #[.string m, .slice (some ⟨g, 0, none⟩) l.length cap] 83)).heap.size = w.heap.size + 1 := World.size_alloc _ _
  have A0 := (Has.new_ w 83 #[.string m, .slice (some ⟨g, 0, none⟩) l.length cap]).on (al1 _ (.cells #[.int .i64 sx, .int .i64 sy, .int .i64 sz] 24))
  have A1 := Has.new_ (w.alloc (.cells #[.string m, .slice (some ⟨g, 0, none⟩) l.length cap] 83)) 24 #[.int .i64 sx, .int .i64 sy, .int .i64 sz]
  rw [hz1] at A1
  have hO0 := own_on hO (al (al1 w (.cells #[.string m, .slice (some ⟨g, 0, none⟩) l.length cap] 83)) (.cells #[.int .i64 sx, .int .i64 sy, .int .i64 sz] 24))
  have C0 : Chg g (g + 1) w ((w.alloc (.cells #[.string m, .slice (some ⟨g, 0, none⟩) l.length cap] 83)).alloc (.cells #[.int .i64 sx, .int .i64 sy, .int .i64 sz] 24)) := (Chg.alloc _ _).trans (Chg.alloc _ _)
  have R0 := A0.read 1
  simp only [List.getElem?_toArray, List.getElem?_cons_succ, List.getElem?_cons_zero] at R0
  go_enter Try.func71, Try.ntmps71
  go_wp2
  go_loopw [9] (fun v wr => ∃ k : Nat, v = .int .i64 k ∧ k ≤ l.length ∧ Has wr (w.heap.size + 1) 24 #[.int .i64 sx, .int .i64 sy, .int .i64 sz] ∧ Has wr w.heap.size 83 #[.string m, .slice (some ⟨g, 0, none⟩) l.length cap] ∧ Own pc 24 3 B wr (.slice (some ⟨g, 0, none⟩) l.length cap) (mvk ⟨sx, sy, sz⟩ l k) ∧ Chg g (g + 1) w wr) (fun v _ => l.length - (intOf v).toNat)
  case atStart => exact ⟨0, rfl, Nat.zero_le _, A1, A0, (by rw [mvk_zero]; exact hO0), C0⟩
  case round =>
    clear A0 A1 hO0 C0 R0 hz1
    obtain ⟨k, rfl, hk, A1, A0, hK, hC⟩ := hrel
    by_cases hlt : k < l.length
    · have g1 : decide ((k : Int) < (l.length : Int)) = true := by simp [hlt]
      have W1 : IntKind.i64.wrap ((k : Int) + 1) = ((k + 1 : Nat) : Int) := by rw [IntWalk.i64_in _ (by omega)]; omega
      have hne := hgw (by omega)
      obtain ⟨⟨c0, c1, c2⟩, -, hBg, hgs⟩ := own_cells hK (mvk_len _ _ _) (k := k) (by rw [mvk_len]; exact hlt)
      rw [mvk_at ⟨sx, sy, sz⟩ l k hlt] at c0 c1 c2
      have h36 := fun W => plus_36 l[k] ⟨sx, sy, sz⟩ (HS.out _ (List.getElem_mem hlt)) W
      have HSet := Lib.hid (mvk_set ⟨sx, sy, sz⟩ l k hlt)
      unfold adp Pt.val at h36
      unfold adp at HSet
      dsimp only at h36 HSet
      generalize l[k].x = px at *
      generalize l[k].y = py at *
      generalize l[k].z = pz at *
      have q1 : (0 : Int) ≤ (k : Int) := by omega
      have q2 : (k : Int) < (l.length : Int) := by omega
      go_upto_region 4 with fail
      have bV := al1 wr (.cells #[.int .i64 px, .int .i64 py, .int .i64 pz] 24)
      have AV := Has.new_ wr 24 #[.int .i64 px, .int .i64 py, .int .i64 pz]
      have B0 := A0.on bV
      have B1 := A1.on bV
      have hKV := own_on hK bV
      have hCV := hC.trans (Chg.alloc (lo := g) (hi := g + 1) wr (.cells #[.int .i64 px, .int .i64 py, .int .i64 pz] 24))
      have hzV : (wr.alloc (.cells #[.int .i64 px, .int .i64 py, .int .i64 pz] 24)).heap.size = wr.heap.size + 1 := World.size_alloc _ _
      clear A0 A1 hK hC c0 c1 c2 bV
      generalize wr.alloc (.cells #[.int .i64 px, .int .i64 py, .int .i64 pz] 24) = V at *
      generalize wr.heap.size = q at *
      have HK : Hid (∀ W', Below V.heap.size V W' → Below V.heap.size V W' ∧ W'.cell? ⟨w.heap.size, 1, none⟩ = some (.slice (some ⟨g, 0, none⟩) l.length cap) ∧ W'.cell? ⟨w.heap.size + 1, 0, none⟩ = some (.int .i64 sx) ∧ W'.cell? ⟨w.heap.size + 1, 1, none⟩ = some (.int .i64 sy) ∧ W'.cell? ⟨w.heap.size + 1, 2, none⟩ = some (.int .i64 sz) ∧ W'.cell? ⟨q, 0, none⟩ = some (.int .i64 px) ∧ W'.cell? ⟨q, 1, none⟩ = some (.int .i64 py) ∧ W'.cell? ⟨q, 2, none⟩ = some (.int .i64 pz)) := Lib.hid fun W' hb => by
        have D0 := (B0.on hb).read 1
        have D1 := (B1.on hb).read 0
        have D2 := (B1.on hb).read 1
        have D3 := (B1.on hb).read 2
        have D4 := (AV.on hb).read 0
        have D5 := (AV.on hb).read 1
        have D6 := (AV.on hb).read 2
        exact ⟨hb, D0, D1, D2, D3, D4, D5, D6⟩
      have HA := Lib.hid (And.intro B0 (And.intro B1 (And.intro hKV (And.intro hCV hzV))))
      clear B0 B1 hKV hCV AV hzV
      refine wp_region_plan 7 [(0, true), (1, true), (2, true), (3, true), (4, true), (5, false), (6, true)] (fun W' => Below V.heap.size V W' ∧ W'.cell? ⟨w.heap.size, 1, none⟩ = some (.slice (some ⟨g, 0, none⟩) l.length cap) ∧ W'.cell? ⟨w.heap.size + 1, 0, none⟩ = some (.int .i64 sx) ∧ W'.cell? ⟨w.heap.size + 1, 1, none⟩ = some (.int .i64 sy) ∧ W'.cell? ⟨w.heap.size + 1, 2, none⟩ = some (.int .i64 sz) ∧ W'.cell? ⟨q, 0, none⟩ = some (.int .i64 px) ∧ W'.cell? ⟨q, 1, none⟩ = some (.int .i64 py) ∧ W'.cell? ⟨q, 2, none⟩ = some (.int .i64 pz)) (by kernel_rfl) (by kernel_rfl) (fun _ _ d _ _ h => by cases d <;> exact h) (HK.out _ (below_dr (Below.refl _ _))) ?_
      simp only [List.filterMap_cons, List.filterMap_nil, List.getElem?_cons_zero, List.getElem?_cons_succ, Option.map_some, List.drop_succ_cons, List.drop_zero]
      iterate 5 (first | (refine wpPlan_still (v := ?_) (Or.inl ⟨by rfl, ?_⟩) ?_; rotate_left; (focus (intro W hW; (try dsimp only at hW); go_split_ands; go_simp; try with_reducible rfl)); try simp only [Act.put, List.setIfInBounds_toArray, List.set_cons_zero, List.set_cons_succ]) | (refine wpPlan_still (Or.inr ⟨by rfl, rfl⟩) ?_; try simp only [Act.put, List.setIfInBounds_toArray, List.set_cons_zero, List.set_cons_succ]))
      refine wpPlan_only (fun K hK => ?_)
      try go_simp
      (go_at_call 36; (with_reducible refine (h36 _).mono ?_); rintro X wq ⟨rfl, hb⟩)
      refine hK.out _ _ (HK.out _ (belows (below_dr (Below.refl _ _)) hb)) ?_
      clear hK K
      try simp only [Act.put, List.setIfInBounds_toArray, List.set_cons_zero, List.set_cons_succ]
      iterate 1 (first | (refine wpPlan_still (v := ?_) (Or.inl ⟨by rfl, ?_⟩) ?_; rotate_left; (focus (intro W hW; (try dsimp only at hW); go_split_ands; go_simp; try with_reducible rfl)); try simp only [Act.put, List.setIfInBounds_toArray, List.set_cons_zero, List.set_cons_succ]) | (refine wpPlan_still (Or.inr ⟨by rfl, rfl⟩) ?_; try simp only [Act.put, List.setIfInBounds_toArray, List.set_cons_zero, List.set_cons_succ]))
      refine wpPlan_end ?_
      obtain ⟨B0, B1, hKV, hCV, hzV⟩ := HA.out
      have hbq := belows (below_dr (Below.refl V.heap.size V)) hb
      have D0 := B0.on hbq
      have D1 := B1.on hbq
      have hKq := own_on hKV hbq
      have hCq : Chg g (g + 1) w wq := hCV.trans (Chg.of hbq)
      clear B0 B1 hKV hCV HA HK hb hbq
      obtain ⟨⟨c0, c1, c2⟩, ⟨f0, f1, f2⟩, -, -⟩ := own_cells hKq (mvk_len _ _ _) (k := k) (by rw [mvk_len]; exact hlt)
      have P3 := own_put3 hKq (mvk_len _ _ _) k ⟨px + sx, py + sy, pz + sz⟩
      rw [HSet.out] at P3
      have PH := Lib.hid (And.intro P3 (And.intro ((((D1.apart_ (p := ⟨g, k * 3, none⟩) (by simp; omega) (.int .i64 (px + sx))).apart_ (p := ⟨g, k * 3 + 1, none⟩) (by simp; omega) (.int .i64 (py + sy))).apart_ (p := ⟨g, k * 3 + 2, none⟩) (by simp; omega) (.int .i64 (pz + sz)))) (And.intro ((((D0.apart_ (p := ⟨g, k * 3, none⟩) (by simp; omega) (.int .i64 (px + sx))).apart_ (p := ⟨g, k * 3 + 1, none⟩) (by simp; omega) (.int .i64 (py + sy))).apart_ (p := ⟨g, k * 3 + 2, none⟩) (by simp; omega) (.int .i64 (pz + sz))))
        (((hCq.trans (Chg.put wq ⟨g, k * 3, none⟩ (.int .i64 (px + sx)) (Nat.le_refl _) (Nat.lt_succ_self _))).trans (Chg.put _ ⟨g, k * 3 + 1, none⟩ (.int .i64 (py + sy)) (Nat.le_refl _) (Nat.lt_succ_self _))).trans (Chg.put _ ⟨g, k * 3 + 2, none⟩ (.int .i64 (pz + sz)) (Nat.le_refl _) (Nat.lt_succ_self _))))))
      clear P3 D0 D1 hKq hCq
      go_wp2
      go_roundw
      case rel => exact ⟨k + 1, rfl, hlt, PH.out.2.1, PH.out.2.2.1, PH.out.1, PH.out.2.2.2⟩
      case measure => simp [intOf]; omega
    · have g1 : decide ((k : Int) < (l.length : Int)) = false := by simp; omega
      obtain rfl : k = l.length := by omega
      rw [mvk_all] at hK
      go_wp2
      go_end0
      exact ⟨rfl, hK, hC⟩
end Go.Proofs.Ytfkcogocaecodaa
namespace Go.Proofs.Ytfkcogocaecodaa
open Go.ChangeShapes Go.WideShapes Go.ChangeAt Go.RowKit Go.Maps
set_option linter.unusedVariables false
set_option linter.unusedSimpArgs false


theorem key9 {s : ByteArray} (hs : s.size ≤ maxLen) : keyOf Try.prog 9 (.string s) = some (.string s.data.toList) := by
  rw [keyOf_string Try.underlying9]
  simp [mapKey, Try.underlying9, hs]
theorem keyed9 : Keyed Try.prog 9 := string_keyed Try.underlying9
def hR (v : Value) : Option (DataW Value × List MemPlace) := some (.held v, [])
/-- A map from strings, as a function; n bounds how often it was turned. -/
def Smap (w : World) (b n : Nat) (f : ByteArray → Option Value) : Prop := ∃ D : DataW Value, w.ownsMap Try.prog 9 hR b n D ∧ (∀ k : ByteArray, has D (.string k.data.toList) = (f k).isSome) ∧ ∀ (k : ByteArray) z, D.atKey (.string k.data.toList) (.held z) = .held ((f k).getD z)
theorem Smap.made (w : World) : Smap (w.alloc (.map #[] 0)) w.heap.size 0 (fun _ => none) := ⟨.map [], World.ownsMap_made _ _ _ _, fun k => rfl, fun k z => rfl⟩
theorem Smap.same {w w1 : World} {b n : Nat} {f : ByteArray → Option Value} (h : Smap w b n f) (hb : w1.heap[b]? = w.heap[b]?) : Smap w1 b n f := by
  obtain ⟨D, ⟨es, clock, hw, F, hs, hD⟩, hk⟩ := h
  exact ⟨D, ⟨es, clock, hb.trans hw, F, hs, hD⟩, hk⟩
theorem Smap.lt {w : World} {b n : Nat} {f : ByteArray → Option Value} (h : Smap w b n f) : b < w.heap.size := by
  obtain ⟨D, ho, hk⟩ := h; exact ho.lt
theorem Smap.on {w w1 : World} {b n : Nat} {f : ByteArray → Option Value} (h : Smap w b n f) (hb : Below w.heap.size w w1) : Smap w1 b n f := h.same (hb.block b h.lt)
theorem Smap.cong {w : World} {b n : Nat} {f g : ByteArray → Option Value} (h : Smap w b n f) (e : ∀ k, f k = g k) : Smap w b n g := by
  obtain ⟨D, ho, h1, h2⟩ := h
  exact ⟨D, ho, fun k => by rw [← e]; exact h1 k, fun k z => by rw [← e]; exact h2 k z⟩
theorem str_ne {a b : ByteArray} (h : a ≠ b) : Lit.string a.data.toList ≠ Lit.string b.data.toList := by
  intro e
  injection e with e
  exact h (ByteArray.ext (Array.toList_inj.1 e))
/-- Looked up. -/
theorem Smap.look {w : World} {b n t e : Nat} {f : ByteArray → Option Value} {z : Value} (h : Smap w b n f) (k : ByteArray) (hk : k.size ≤ maxLen) (ht : Try.prog.underlying t = some (.map 9 e)) (hz : (zeroValue e).run Try.prog w = .ok z w) :
    (Instr.lookup t (.map (some b)) (.string k) false).run Try.prog w = .ok ((f k).getD z) w := by
  obtain ⟨D, ho, h1, h2⟩ := h
  obtain ⟨v, ps, hr, hv⟩ := ho.lookup keyed9 ht hz (zd := .held z) (zp := []) rfl (key9 hk)
  rw [h2 k z] at hv
  simp only [hR, Option.some.injEq, Prod.mk.injEq, DataW.held.injEq] at hv
  rw [hr, hv.1]
/-- Looked up, with the answer whether it is there. -/
theorem Smap.look2 {w : World} {b n t e : Nat} {f : ByteArray → Option Value} {z : Value} (h : Smap w b n f) (k : ByteArray) (hk : k.size ≤ maxLen) (ht : Try.prog.underlying t = some (.map 9 e)) (hz : (zeroValue e).run Try.prog w = .ok z w) :
    (Instr.lookup t (.map (some b)) (.string k) true).run Try.prog w = .ok (.tuple #[(f k).getD z, .bool (f k).isSome]) w := by
  obtain ⟨D, ho, h1, h2⟩ := h
  obtain ⟨v, ps, hr, hv⟩ := ho.look_ok keyed9 ht hz (zd := .held z) (zp := []) rfl (key9 hk)
  rw [h2 k z] at hv
  simp only [hR, Option.some.injEq, Prod.mk.injEq, DataW.held.injEq] at hv
  rw [hr, hv.1, h1 k]
/-- Put in. -/
theorem Smap.put {w : World} {b n t e : Nat} {f : ByteArray → Option Value} (h : Smap w b n f) (k : ByteArray) (v : Value) (hk : k.size ≤ maxLen) (hn : n < 100000) (ht : Try.prog.underlying t = some (.map 9 e)) :
    ∃ w', (Instr.mapUpdate t (.map (some b)) (.string k) v).run Try.prog w = .ok () w' ∧ Smap w' b (n + 1) (fun x => if x = k then some v else f x) ∧ w.grownBy w' (some b) := by
  obtain ⟨D, ho, h1, h2⟩ := h
  have hm : IsMap D := ho.isMap
  obtain ⟨w', hrun, ho', hg⟩ := ho.update keyed9 ht (by unfold maxLen; omega) (key9 hk) (d := .held v) (ps := []) rfl
  refine ⟨w', hrun, ⟨_, ho', fun x => ?_, fun x z => ?_⟩, hg⟩
  · dsimp only
    by_cases e : x = k
    · subst e
      rw [has_put_same hm (by trivial), if_pos rfl]; rfl
    · rw [has_put_other (str_ne e), if_neg e, h1 x]
  · dsimp only
    by_cases e : x = k
    · subst e
      rw [atKey_put_same hm (by trivial), if_pos rfl]; rfl
    · rw [atKey_put_other (str_ne e), if_neg e, h2 x]
/-- Struck out. -/
theorem Smap.drop {w : World} {b n t e : Nat} {f : ByteArray → Option Value} (h : Smap w b n f) (k : ByteArray) (hk : k.size ≤ maxLen) (ht : Try.prog.underlying t = some (.map 9 e)) (ty : TypeId) :
    ∃ w', (Builtin.delete_ #[t, 9] ty #[.map (some b), .string k]).run Try.prog w = .ok (.tuple #[]) w' ∧ Smap w' b n (fun x => if x = k then none else f x) ∧ w.grownBy w' (some b) := by
  obtain ⟨D, ho, h1, h2⟩ := h
  obtain ⟨w', hrun, ho', hg⟩ := ho.drop keyed9 ht (key9 hk) ty
  refine ⟨w', hrun, ⟨_, ho', fun x => ?_, fun x z => ?_⟩, hg.grown⟩
  · dsimp only
    by_cases e : x = k
    · subst e
      rw [has_del_same, if_pos rfl]; rfl
    · rw [has_del_other (str_ne e), if_neg e, h1 x]
  · dsimp only
    by_cases e : x = k
    · subst e
      rw [atKey_del_same, if_pos rfl]; rfl
    · rw [atKey_del_other (str_ne e), if_neg e, h2 x]
end Go.Proofs.Ytfkcogocaecodaa
