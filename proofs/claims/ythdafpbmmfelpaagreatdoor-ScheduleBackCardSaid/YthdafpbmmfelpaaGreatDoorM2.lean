/- What the walks of this seat keep: blocks, rows of whole numbers, worlds that differ in one block. What a walk keeps: the blocks that it laid, as they are known, the newest first. Codes: directions, dimensions, how many; fit; points. Max, Dims, fit, size: contracts. Sizes of both sides: IsSize. -/
import Derived.Test.YthdafpbmmfelpaaGreatDoorRows
import Derived.WalkKit
import Derived.ProofKit
import Derived.OpenShut
import Derived.Deep.QuietTactic
import Derived.BigQuiet
import Derived.Outline
import Derived.IntWalk
import Derived.Lib.Hide
import Derived.Deep.RegionHeld3
import Derived.Deep.AppendLies
import Derived.Laws.OwnMore
import Derived.Laws.Rows
import Derived.Deep.Draws
import Derived.OwnWalk
import Derived.Deep.RegionLaw
import Derived.Deep.DeepCutAuto
import Derived.Deep.LoopGhost
import Derived.Deep.Fields
import Derived.StillTailTactics
import Derived.WalkSpells
import Derived.Maps.AppendAt
import Derived.Lib.Strings
namespace Go.Proofs.YthdafpbmmfelpaaGreatDoor
open Go.ChangeShapes Go.WideShapes Go.ChangeAt Go.RowKit
set_option linter.unusedVariables false
set_option linter.unusedSimpArgs false

theorem ret_one {k : IntKind} {a b : Int} (h : a = b) : Ending.returned (.int k a) = .returned (.int k b) := by rw [h]
theorem belows {a b c : World} (h1 : Below a.heap.size a b) (h2 : Below b.heap.size b c) : Below a.heap.size a c := h1.trans (h2.mono h1.size)
theorem below_drewN {B : Nat} {a w : World} (h : Below B a w) (n : Nat) : Below B a (w.drewN n) := ⟨h.os, h.tape, h.output, h.size, h.block⟩
theorem al {a w : World} (h : Below a.heap.size a w) (o : Obj) : Below a.heap.size a (w.alloc o) := h.alloc h.size o
theorem al1 (a : World) (o : Obj) : Below a.heap.size a (a.alloc o) := al (Below.refl _ _) o
def I64 (n : Int) : Prop := -9223372036854775808 ≤ n ∧ n ≤ 9223372036854775807

/-- Block g is just these cells, none of them frozen. -/
def Has (w : World) (g : Nat) (t : TypeId) (cs : Array Value) : Prop := w.heap[g]? = some (.cells cs t (0, 0))
theorem Has.size_ {w : World} {g : Nat} {t : TypeId} {cs : Array Value} (h : Has w g t cs) : g < w.heap.size := by
  unfold Has at h
  exact (Array.getElem?_eq_some_iff.1 h).1
theorem Has.read {w : World} {g : Nat} {t : TypeId} {cs : Array Value} (h : Has w g t cs) (i : Nat) : w.cell? ⟨g, i, none⟩ = cs[i]? := cell_of_row w g i cs t (0, 0) h
theorem Has.open_ {w : World} {g : Nat} {t : TypeId} {cs : Array Value} (h : Has w g t cs) (i : Nat) : w.frozen? ⟨g, i, none⟩ = false := by
  simp only [Has] at h; simp [World.frozen?, h]
theorem Has.new_ (w : World) (t : TypeId) (cs : Array Value) : Has (w.alloc (.cells cs t)) w.heap.size t cs := heap_alloc_new w _
theorem Has.drew_ {w : World} {g : Nat} {t : TypeId} {cs : Array Value} (h : Has w g t cs) : Has w.drew g t cs := h
theorem Has.put_ {w : World} {g : Nat} {t : TypeId} {cs : Array Value} (h : Has w g t cs) (i : Nat) (u : Value) : Has (w.setCell ⟨g, i, none⟩ u) g t (cs.setIfInBounds i u) := by
  simp only [Has] at h ⊢; simp [World.setCell, Array.getElem?_modify, h]
theorem Has.apart_ {w : World} {g : Nat} {t : TypeId} {cs : Array Value} (h : Has w g t cs) {p : Addr} (hp : g ≠ p.block) (u : Value) : Has (w.setCell p u) g t cs := by
  unfold Has; rw [Below.heap_setCell w p u g hp]; exact h
theorem Has.on {w w' : World} {g : Nat} {t : TypeId} {cs : Array Value} (h : Has w g t cs) (hb : Below w.heap.size w w') : Has w' g t cs := by
  unfold Has; rw [hb.block g h.size_]; exact h
theorem Has.grown_ {w w' : World} {g : Nat} {t : TypeId} {cs : Array Value} {row : Option Nat} (h : Has w g t cs) (hb : w.grownBy w' row) (hg : some g ≠ row) : Has w' g t cs := by
  unfold Has; rw [hb.block g h.size_ hg]; exact h

/-- The world is as it was, but for block g. -/
structure At (g : Nat) (w w' : World) : Prop where
  os : w'.os = w.os
  tape : w'.tape = w.tape
  output : w'.output = w.output
  size : w'.heap.size = w.heap.size
  block : ∀ k, k ≠ g → w'.heap[k]? = w.heap[k]?
theorem At.refl (g : Nat) (w : World) : At g w w := ⟨rfl, rfl, rfl, rfl, fun _ _ => rfl⟩
theorem At.trans {g : Nat} {a b c : World} (h : At g a b) (k : At g b c) : At g a c := ⟨k.os.trans h.os, k.tape.trans h.tape, k.output.trans h.output, k.size.trans h.size, fun j hj => (k.block j hj).trans (h.block j hj)⟩
theorem At.put {g : Nat} {a w : World} (h : At g a w) (i : Nat) (u : Value) : At g a (w.setCell ⟨g, i, none⟩ u) :=
  h.trans ⟨rfl, rfl, rfl, by simp [World.setCell], fun k hk => Below.heap_setCell _ _ _ _ hk⟩
theorem At.below {g B : Nat} {w w' : World} (h : At g w w') (hB : B ≤ g) : Below B w w' := ⟨h.os, h.tape, h.output, Nat.le_of_eq h.size.symm, fun k hk => h.block k (by omega)⟩
theorem Has.at_ {w w' : World} {g k : Nat} {t : TypeId} {cs : Array Value} (h : Has w k t cs) (hb : At g w w') (hk : k ≠ g) : Has w' k t cs := by
  unfold Has; rw [hb.block k hk]; exact h

/-- A row of n whole numbers that fills block g. -/
def Row (w : World) (g n : Nat) (f : Nat → Int) : Prop := Has w g 3 ((List.range n).map fun i => Value.int .i64 (f i)).toArray
def upd {α : Type} (f : Nat → α) (i : Nat) (v : α) (j : Nat) : α := if j = i then v else f j
theorem upd_same {α : Type} (f : Nat → α) (i : Nat) (v : α) : upd f i v i = v := if_pos rfl
theorem upd_other {α : Type} {f : Nat → α} {i j : Nat} {v : α} (h : j ≠ i) : upd f i v j = f j := if_neg h
theorem Row.read {w : World} {g n : Nat} {f : Nat → Int} (h : Row w g n f) {i : Nat} (hi : i < n) : w.cell? ⟨g, i, none⟩ = some (.int .i64 (f i)) := by
  rw [Has.read h i]; simp [hi]
theorem Row.put {w : World} {g n : Nat} {f : Nat → Int} (h : Row w g n f) (i : Nat) (v : Int) : Row (w.setCell ⟨g, i, none⟩ (.int .i64 v)) g n (upd f i v) := by
  have k := Has.put_ h i (.int .i64 v)
  have e : (((List.range n).map fun i => Value.int .i64 (f i)).toArray.setIfInBounds i (.int .i64 v)) = ((List.range n).map fun j => Value.int .i64 (upd f i v j)).toArray := by
    apply Array.ext
    · simp
    · intro j h1 h2
      simp only [Array.getElem_setIfInBounds, List.getElem_toArray, List.getElem_map, List.getElem_range, upd]
      by_cases hj : i = j
      · simp [hj]
      · simp [hj, Ne.symm hj]
  rw [e] at k; exact k
theorem Row.cong {w : World} {g n : Nat} {f f' : Nat → Int} (h : Row w g n f) (e : ∀ i, i < n → f i = f' i) : Row w g n f' := by
  unfold Row at *
  rw [show ((List.range n).map fun i => Value.int .i64 (f' i)) = (List.range n).map fun i => Value.int .i64 (f i) from List.map_congr_left fun i hi => by rw [e i (List.mem_range.1 hi)]]
  exact h
theorem info3 : (Tryz.prog.info? 3).map (fun i => (i.zero, i.size, i.bytes)) = some (some (.int .i64 0), 1, 8) := by kernel_rfl
theorem has_full {w : World} {base g n size : Nat} {e : TypeId} {xs : List Value} (h : w.ownsRow base e size (.slice (some ⟨g, 0, none⟩) n n) n xs) : Has w g e xs.toArray := by
  obtain ⟨hl, ⟨h, -⟩ | ⟨g', cap, cur, hv, -, hg, -, -, hs, ht⟩⟩ := h
  · cases h
  · simp only [Value.slice.injEq, Option.some.injEq, Addr.mk.injEq] at hv
    obtain ⟨⟨rfl, -⟩, -, rfl⟩ := hv
    have : cur = xs.toArray := by
      rw [← ht, List.take_of_length_le (by simp [hs])]
    rw [this] at hg; exact hg
theorem row_zero {w : World} {base g n : Nat} (h : w.ownsRow base 3 1 (.slice (some ⟨g, 0, none⟩) n n) n (madeCells #[Value.int .i64 0] n).toList) : Row w g n (fun _ => 0) := by
  have k := has_full h
  unfold Row
  have e : (madeCells #[Value.int .i64 0] n).toList = (List.range n).map fun _ => Value.int .i64 0 := by
    rw [toList_madeCells_one]
    apply List.ext_getElem <;> simp
  rw [e] at k; exact k
theorem below_grown {B : Nat} {a w w' : World} (h : Below B a w) (hg : w.grownBy w' none) (hB : B ≤ w.heap.size) : Below B a w' := h.grown hg hB (fun k hk => by cases hk)
theorem below_al {a w : World} (h : Below a.heap.size a w) (o : Obj) : Below a.heap.size a (w.alloc o) := al h o
theorem below_dr {a w : World} (h : Below a.heap.size a w) : Below a.heap.size a w.drew := Below.drew h
end Go.Proofs.YthdafpbmmfelpaaGreatDoor
namespace Go.Proofs.YthdafpbmmfelpaaGreatDoor
open Go.ChangeShapes Go.WideShapes Go.ChangeAt Go.RowKit
set_option linter.unusedVariables false
set_option linter.unusedSimpArgs false

structure Fb where
  g : Nat
  t : TypeId
  cs : Array Value
def CF (w : World) (g : Nat) : Nat → List Value → Prop
  | _, [] => True
  | o, v :: l => (w.cell? ⟨g, o, none⟩ = some v ∧ w.frozen? ⟨g, o, none⟩ = false) ∧ CF w g (o + 1) l
def BC (w : World) : List Fb → Prop
  | [] => True
  | x :: l => (x.g < w.heap.size ∧ CF w x.g 0 x.cs.toList) ∧ BC w l
def Blk (B : Nat) (w : World) : List Fb → Prop
  | [] => True
  | x :: l => B ≤ x.g ∧ Has w x.g x.t x.cs ∧ (∀ y ∈ l, y.g ≠ x.g) ∧ Blk B w l
theorem cf_of {w : World} {g : Nat} {t : TypeId} {cs : Array Value} (h : Has w g t cs) : ∀ (l : List Value) (o : Nat), cs.toList.drop o = l → CF w g o l
  | [], _, _ => trivial
  | v :: l, o, e => by
    refine ⟨⟨?_, h.open_ o⟩, cf_of h l (o + 1) (by rw [← List.drop_drop, e]; rfl)⟩
    rw [h.read o, ← Array.getElem?_toList, ← List.head?_drop, e]; rfl
theorem Blk.cells {B : Nat} {w : World} : ∀ {l : List Fb}, Blk B w l → BC w l
  | [], _ => trivial
  | _ :: _, h => ⟨⟨h.2.1.size_, cf_of h.2.1 _ 0 rfl⟩, Blk.cells h.2.2.2⟩
theorem Blk.on {B : Nat} {w w1 : World} (hb : Below w.heap.size w w1) : ∀ {l : List Fb}, Blk B w l → Blk B w1 l
  | [], _ => trivial
  | _ :: _, h => ⟨h.1, h.2.1.on hb, h.2.2.1, Blk.on hb h.2.2.2⟩
theorem Blk.lt {B : Nat} {w : World} : ∀ {l : List Fb}, Blk B w l → ∀ y ∈ l, y.g < w.heap.size
  | [], _, _, hy => by cases hy
  | x :: l, h, y, hy => by
    rcases List.mem_cons.1 hy with rfl | hy
    · exact h.2.1.size_
    · exact Blk.lt h.2.2.2 y hy
theorem Blk.ge {B : Nat} {w : World} : ∀ {l : List Fb}, Blk B w l → ∀ y ∈ l, B ≤ y.g
  | [], _, _, hy => by cases hy
  | x :: l, h, y, hy => by
    rcases List.mem_cons.1 hy with rfl | hy
    · exact h.1
    · exact Blk.ge h.2.2.2 y hy
theorem Blk.far {B : Nat} {w : World} {p : Addr} (u : Value) : ∀ {l : List Fb}, Blk B w l → (∀ y ∈ l, y.g ≠ p.block) → Blk B (w.setCell p u) l
  | [], _, _ => trivial
  | _ :: _, h, k => ⟨h.1, h.2.1.apart_ (k _ (List.mem_cons_self ..)) _, h.2.2.1, Blk.far u h.2.2.2 fun y hy => k y (List.mem_cons_of_mem _ hy)⟩
def setB (i : Nat) (u : Value) : Nat → List Fb → List Fb
  | _, [] => []
  | 0, x :: l => ⟨x.g, x.t, x.cs.setIfInBounds i u⟩ :: l
  | k + 1, x :: l => x :: setB i u k l
def numB : Nat → List Fb → Nat
  | _, [] => 0
  | 0, x :: _ => x.g
  | k + 1, _ :: l => numB k l
theorem setB_g (i : Nat) (u : Value) : ∀ (k : Nat) (l : List Fb), (setB i u k l).map (·.g) = l.map (·.g)
  | _, [] => by cases ‹Nat› <;> rfl
  | 0, x :: l => rfl
  | k + 1, x :: l => by simp [setB, setB_g i u k l]
theorem numB_mem : ∀ (k : Nat) (l : List Fb), k < l.length → numB k l ∈ l.map (·.g)
  | _, [], h => by simp at h
  | 0, x :: l, _ => by simp [numB]
  | k + 1, x :: l, h => by simp only [numB, List.map_cons, List.mem_cons]; right; exact numB_mem k l (by simpa using h)
theorem Blk.put {B : Nat} {w : World} (i : Nat) (u : Value) : ∀ (k : Nat) {l : List Fb}, Blk B w l → k < l.length → Blk B (w.setCell ⟨numB k l, i, none⟩ u) (setB i u k l)
  | _, [], _, h => by simp at h
  | 0, x :: l, h, _ => ⟨h.1, h.2.1.put_ i u, h.2.2.1, Blk.far u h.2.2.2 fun y hy => h.2.2.1 y hy⟩
  | k + 1, x :: l, h, hk => by
    have hk' : k < l.length := by simpa using hk
    have m := numB_mem k l hk'
    obtain ⟨y, hy, e⟩ := List.mem_map.1 m
    refine ⟨h.1, h.2.1.apart_ ?_ _, ?_, Blk.put i u k h.2.2.2 hk'⟩
    · have := h.2.2.1 y hy; simp only [numB]; omega
    · intro z hz
      have : z.g ∈ (setB i u k l).map (·.g) := List.mem_map.2 ⟨z, hz, rfl⟩
      rw [setB_g] at this
      obtain ⟨y', hy', e'⟩ := List.mem_map.1 this
      rw [← e']; exact h.2.2.1 y' hy'
def Env (w0 w : World) (l : List Fb) : Prop := Below w0.heap.size w0 w ∧ Blk w0.heap.size w l
theorem Env.nil (w : World) : Env w w [] := ⟨Below.refl _ _, trivial⟩
theorem Env.on {w0 w w1 : World} {l : List Fb} (h : Env w0 w l) (hb : Below w.heap.size w w1) : Env w0 w1 l := ⟨belows h.1 hb, h.2.on hb⟩
theorem Env.add {w0 w : World} {l : List Fb} (h : Env w0 w l) (n : Nat) (t : TypeId) (cs : Array Value) (e : w.heap.size = n) : Env w0 (w.alloc (.cells cs t)) (⟨n, t, cs⟩ :: l) := by
  subst e
  exact ⟨al h.1 _, h.1.size, Has.new_ _ _ _, fun y hy => Nat.ne_of_lt (h.2.lt y hy), h.2.on (al1 _ _)⟩
theorem Env.more {w0 w : World} {l : List Fb} (h : Env w0 w l) (o : Obj) : Env w0 (w.alloc o) l := h.on (al1 _ _)
theorem Env.drw {w0 w : World} {l : List Fb} (h : Env w0 w l) : Env w0 w.drew l := h.on (Below.drew (Below.refl _ _))
theorem Env.dr {w0 w : World} {l : List Fb} (h : Env w0 w l) (n : Nat) : Env w0 (w.drewN n) l := h.on (below_drewN (Below.refl _ _) n)
theorem Env.put {w0 w : World} {l : List Fb} (h : Env w0 w l) (k i : Nat) (u : Value) (hb : Nat.blt k l.length = true) : Env w0 (w.setCell ⟨numB k l, i, none⟩ u) (setB i u k l) := by
  have hk : k < l.length := by simpa using hb
  refine ⟨h.1.setCell ?_ _, h.2.put i u k hk⟩
  obtain ⟨y, hy, e⟩ := List.mem_map.1 (numB_mem k l hk)
  have := h.2.ge y hy; simp only; omega
theorem Env.cells {w0 w : World} {l : List Fb} (h : Env w0 w l) : BC w l := h.2.cells
theorem Env.tail {w0 w : World} {l : List Fb} {x : Fb} (h : Env w0 w (x :: l)) : Env w0 w l := ⟨h.1, h.2.2.2.2⟩
theorem Env.lt {w0 w : World} {l : List Fb} (h : Env w0 w l) (k : Nat) (hk : k < l.length) : numB k l < w.heap.size := by
  obtain ⟨y, hy, e⟩ := List.mem_map.1 (numB_mem k l hk)
  have := h.2.lt y hy; omega
theorem Env.swap {w0 w : World} {l : List Fb} {x y : Fb} (h : Env w0 w (x :: y :: l)) : Env w0 w (y :: x :: l) := by
  obtain ⟨hb, h1, h2, h3, h4, h5, h6, h7⟩ := h
  refine ⟨hb, h4, h5, ?_, h1, h2, ?_, h7⟩
  · intro z hz
    rcases List.mem_cons.1 hz with rfl | hz
    · exact fun e => h3 y (List.mem_cons_self ..) e.symm
    · exact h6 z hz
  · exact fun z hz => h3 z (List.mem_cons_of_mem _ hz)
theorem sz1 {w : World} {o : Obj} {n : Nat} (h : w.heap.size = n) : (w.alloc o).heap.size = n + 1 := by simp [h]
theorem Env.six {w0 w : World} {l : List Fb} {u0 u1 u2 u3 u4 u5 : Value} (h : Env w0 w l) (k : Nat) (hb : Nat.blt k l.length = true) :
    Env w0 ((((((w.setCell ⟨numB k l, 0, none⟩ u0).setCell ⟨numB k l, 1, none⟩ u1).setCell ⟨numB k l, 2, none⟩ u2).setCell ⟨numB k l, 3, none⟩ u3).setCell ⟨numB k l, 4, none⟩ u4).setCell ⟨numB k l, 5, none⟩ u5) (setB 5 u5 k (setB 4 u4 k (setB 3 u3 k (setB 2 u2 k (setB 1 u1 k (setB 0 u0 k l)))))) := by
  have e : ∀ (k : Nat) (l : List Fb) (i : Nat) (u : Value), numB k (setB i u k l) = numB k l := by
    intro k l i u
    induction l generalizing k with
    | nil => cases k <;> rfl
    | cons x l ih => cases k with
      | zero => rfl
      | succ k => exact ih k
  have e2 : ∀ (k : Nat) (l : List Fb) (i : Nat) (u : Value), (setB i u k l).length = l.length := by
    intro k l i u
    have := congrArg List.length (setB_g i u k l); simpa using this
  have h0 := h.put k 0 u0 hb
  have h1 := h0.put k 1 u1 (by rw [e2]; exact hb)
  have h2 := h1.put k 2 u2 (by rw [e2, e2]; exact hb)
  have h3 := h2.put k 3 u3 (by rw [e2, e2, e2]; exact hb)
  have h4 := h3.put k 4 u4 (by rw [e2, e2, e2, e2]; exact hb)
  have h5 := h4.put k 5 u5 (by rw [e2, e2, e2, e2, e2]; exact hb)
  simp only [e] at h5
  exact h5
theorem Env.cong {w0 w : World} {l l' : List Fb} (h : Env w0 w l) (e : l = l') : Env w0 w l' := e ▸ h
end Go.Proofs.YthdafpbmmfelpaaGreatDoor
namespace Go.Proofs.YthdafpbmmfelpaaGreatDoor
open Go.ChangeShapes Go.WideShapes Go.ChangeAt Go.RowKit
set_option linter.unusedVariables false
set_option linter.unusedSimpArgs false

def dirS (c : Int) : List UInt8 :=
  if c = 0 then [88] else if c = 11 then [88, 89] else if c = 21 then [121, 88, 89] else if c = 26 then [88, 89, 88]
  else if c = 31 then [88, 89, 90] else if c = 41 then [88, 89, 88, 121, 88] else if c = 51 then [121, 88, 89, 120, 121, 88]
  else if c = 98 then [90, 121, 88, 89, 90] else []
def ixb (c : Int) : List Nat := if c = 51 then [2, 0, 1, 0, 1, 2] else if c = 98 then [0, 1, 2, 1, 0] else [0, 1, 2, 3, 4]
def ndim (c : Int) : Nat :=
  if c = 0 then 1 else if c = 11 then 2 else if c = 21 then 3 else if c = 26 then 3
  else if c = 31 then 3 else if c = 41 then 5 else if c = 51 then 3
  else if c = 98 then 3 else 0
def nl (c : Int) : Nat := (dirS c).length
def mc (c : Int) : Nat := (ixb c).length
def isC (c : Int) : Bool := !(dirS c).isEmpty
def ixf (c : Int) (j : Nat) : Int := ((ixb c).getD j 0 : Nat)
theorem code_in {c : Int} (h : isC c = true) : c = 0 ∨ c = 11 ∨ c = 21 ∨ c = 26 ∨ c = 31 ∨ c = 41 ∨ c = 51 ∨ c = 98 := by
  unfold isC dirS at h
  repeat' split at h
  all_goals first | omega | simp at h
theorem code_no {c : Int} (h : isC c = false) : c ≠ 0 ∧ c ≠ 11 ∧ c ≠ 21 ∧ c ≠ 26 ∧ c ≠ 31 ∧ c ≠ 41 ∧ c ≠ 51 ∧ c ≠ 98 := by
  unfold isC dirS at h
  repeat' split at h
  all_goals first | (simp at h; done) | simp [*]
theorem dirS_no {c : Int} (h : isC c = false) : dirS c = [] := by
  unfold isC at h; simpa using h
theorem ndim_no {c : Int} (h : isC c = false) : ndim c = 0 := by
  obtain ⟨h0, h1, h2, h3, h4, h5, h6, h7⟩ := code_no h
  simp [ndim, h0, h1, h2, h3, h4, h5, h6, h7]
theorem nl_mc {c : Int} (h : isC c = true) : nl c ≤ mc c := by
  rcases code_in h with rfl | rfl | rfl | rfl | rfl | rfl | rfl | rfl <;> decide
theorem nl_le {c : Int} (h : isC c = true) : nl c ≤ 6 := by
  rcases code_in h with rfl | rfl | rfl | rfl | rfl | rfl | rfl | rfl <;> decide
theorem nl_pos {c : Int} (h : isC c = true) : 0 < nl c := by
  rcases code_in h with rfl | rfl | rfl | rfl | rfl | rfl | rfl | rfl <;> decide
theorem ndim_pos {c : Int} (h : isC c = true) : 0 < ndim c := by
  rcases code_in h with rfl | rfl | rfl | rfl | rfl | rfl | rfl | rfl <;> decide
theorem ndim_le (c : Int) : ndim c ≤ 5 := by
  unfold ndim; repeat' split
  all_goals omega
theorem ndim_zero {c : Int} : ndim c = 0 ↔ isC c = false := by
  constructor
  · intro h
    cases k : isC c
    · rfl
    · have := ndim_pos k; omega
  · exact ndim_no
theorem ix_lt {c : Int} (h : isC c = true) {j : Nat} (hj : j < nl c) : (ixb c).getD j 0 < ndim c := by
  rcases code_in h with rfl | rfl | rfl | rfl | rfl | rfl | rfl | rfl <;>
  · have hj' : j < 6 := Nat.lt_of_lt_of_le hj (nl_le h)
    revert hj
    rcases (by omega : j = 0 ∨ j = 1 ∨ j = 2 ∨ j = 3 ∨ j = 4 ∨ j = 5) with rfl | rfl | rfl | rfl | rfl | rfl <;> decide

set_option maxRecDepth 100000 in
theorem dir_any (c : Int) (w : World) : Calls Tryz.prog 97 #[.int .i64 c] w fun e w' => e = .returned (.string ⟨(dirS c).toArray⟩) ∧ w = w' := by
  cases h : isC c
  · rw [dirS_no h]
    obtain ⟨h0, h1, h2, h3, h4, h5, h6, h7⟩ := code_no h
    have n0 := beq_eq_false_iff_ne.2 h0
    have n1 := beq_eq_false_iff_ne.2 h1
    have n2 := beq_eq_false_iff_ne.2 h2
    have n3 := beq_eq_false_iff_ne.2 h3
    have n4 := beq_eq_false_iff_ne.2 h4
    have n5 := beq_eq_false_iff_ne.2 h5
    have n6 := beq_eq_false_iff_ne.2 h6
    have n7 := beq_eq_false_iff_ne.2 h7
    clear h
    go_enter Tryz.func97, Tryz.ntmps97
    go_wp2
    go_ret
    exact ⟨rfl, rfl⟩
  · rcases code_in h with rfl | rfl | rfl | rfl | rfl | rfl | rfl | rfl
    all_goals (
      clear h
      go_enter Tryz.func97, Tryz.ntmps97
      go_wp2
      go_ret
      exact ⟨rfl, rfl⟩)
set_option maxRecDepth 100000 in
theorem rdims_any (c : Int) (w : World) : Calls Tryz.prog 68 #[.int .i64 c] w fun e w' => e = .returned (.int .i64 (ndim c : Nat)) ∧ w = w' := by
  cases h : isC c
  · rw [ndim_no h]
    obtain ⟨h0, h1, h2, h3, h4, h5, h6, h7⟩ := code_no h
    have n0 := beq_eq_false_iff_ne.2 h0
    have n1 := beq_eq_false_iff_ne.2 h1
    have n2 := beq_eq_false_iff_ne.2 h2
    have n3 := beq_eq_false_iff_ne.2 h3
    have n4 := beq_eq_false_iff_ne.2 h4
    have n5 := beq_eq_false_iff_ne.2 h5
    have n6 := beq_eq_false_iff_ne.2 h6
    have n7 := beq_eq_false_iff_ne.2 h7
    clear h
    go_enter Tryz.func68, Tryz.ntmps68
    go_wp2
    go_ret
    exact ⟨rfl, rfl⟩
  · rcases code_in h with rfl | rfl | rfl | rfl | rfl | rfl | rfl | rfl
    all_goals (
      clear h
      go_enter Tryz.func68, Tryz.ntmps68
      go_wp2
      go_ret
      exact ⟨rfl, rfl⟩)
set_option maxRecDepth 100000 in
theorem dims_any {c : Int} (h : isC c = true) (w : World) : Calls Tryz.prog 99 #[.int .i64 c] w fun e w' =>
    ∃ g, e = .returned (.slice (some ⟨g, 0, none⟩) (nl c) (mc c)) ∧ Row w' g (mc c) (ixf c) ∧ Below w.heap.size w w' ∧ w.heap.size ≤ g := by
  have hd := fun W => dir_any c W
  rcases code_in h with rfl | rfl | rfl | rfl | rfl | rfl | rfl | rfl
  all_goals (
    clear h
    unfold dirS at hd
    simp at hd
    go_enter Tryz.func99, Tryz.ntmps99
    go_wp2_with (go_at_call 97; (with_reducible refine (hd _).mono ?_); rintro e w1 ⟨rfl, rfl⟩)
    go_ret
    exact ⟨w.heap.size, rfl, Has.new_ w 3 _, al1 w _, Nat.le_refl _⟩)
end Go.Proofs.YthdafpbmmfelpaaGreatDoor
namespace Go.Proofs.YthdafpbmmfelpaaGreatDoor
open Go.ChangeShapes Go.WideShapes Go.ChangeAt Go.RowKit
set_option linter.unusedVariables false
set_option linter.unusedSimpArgs false

theorem cellLater {w w' : World} {a : Addr} {v : Value} (hb : Below w.heap.size w w') (h : w.cell? a = some v) : w'.cell? a = some v := by
  rcases Nat.lt_or_ge a.block w.heap.size with hl | hl
  · unfold World.cell? at h ⊢
    rw [hb.block a.block hl]; exact h
  · exfalso
    have : w.heap[a.block]? = none := Array.getElem?_eq_none hl
    unfold World.cell? at h
    rw [this] at h
    cases h
/-- A slice of whole numbers that can be read. -/
def Rdz (w : World) (v : Value) (zs : List Int) : Prop := ∃ q c, v = .slice q zs.length c ∧ ∀ j (h : j < zs.length), ∃ a, q = some a ∧ w.cell? (a.add j) = some (.int .i64 zs[j])
theorem Rdz.on {w w1 : World} {v : Value} {zs : List Int} (h : Rdz w v zs) (hb : Below w.heap.size w w1) : Rdz w1 v zs := by
  obtain ⟨q, c, rfl, k⟩ := h
  refine ⟨q, c, rfl, fun j hj => ?_⟩
  obtain ⟨g, e, hc⟩ := k j hj
  exact ⟨g, e, cellLater hb hc⟩
theorem Row.on {w w' : World} {g n : Nat} {f : Nat → Int} (h : Row w g n f) (hb : Below w.heap.size w w') : Row w' g n f := Has.on h hb
theorem Row.rdz {w : World} {g n m cap : Nat} {f : Nat → Int} (h : Row w g m f) (hn : n ≤ m) : Rdz w (.slice (some ⟨g, 0, none⟩) n cap) ((List.range n).map f) := by
  have e : n = ((List.range n).map f).length := by simp
  refine ⟨some ⟨g, 0, none⟩, cap, by rw [← e], fun j hj => ⟨_, rfl, ?_⟩⟩
  have hj' : j < n := by simpa using hj
  rw [Addr.add_lit, Nat.zero_add, Row.read h (by omega)]
  simp

def mxf (f : Nat → Int) : Nat → Int
  | 0 => f 0
  | k + 1 => max (mxf f k) (f (k + 1))
set_option maxRecDepth 100000 in
theorem max_any (g n m cap : Nat) (f : Nat → Int) (w : World) (hR : Row w g m f) (hn : 0 < n) (hm : n ≤ m) (hc : n ≤ 1000) :
    Calls Tryz.prog 98 #[.slice (some ⟨g, 0, none⟩) n cap] w fun e w' => e = .returned (.int .i64 (mxf f (n - 1))) ∧ w = w' := by
  have g0 : decide ((n : Int) < 1) = false := by simp; omega
  have d0 := Row.read hR (i := 0) (by omega)
  have q0 : (0 : Int) < (n : Int) := by omega
  have HR := Lib.hid hR
  clear hR
  go_enter Tryz.func98, Tryz.ntmps98
  go_wp2
  go_loop [3, 4] (fun v3 v4 => ∃ k : Nat, v3 = .int .i64 (mxf f k) ∧ v4 = .int .i64 (k + 1 : Nat) ∧ k < n) (fun _ v => n - (intOf v).toNat)
  case atStart => exact ⟨0, rfl, rfl, hn⟩
  case round =>
    obtain ⟨k, rfl, rfl, hk⟩ := hrel
    by_cases hlt : k + 1 < n
    · have g1 : decide (((k + 1 : Nat) : Int) < (n : Int)) = true := by simp; omega
      have W1 : IntKind.i64.wrap (((k + 1 : Nat) : Int) + 1) = ((k + 1 + 1 : Nat) : Int) := by rw [IntWalk.i64_in _ (by omega)]; omega
      have q1 : (0 : Int) ≤ ((k + 1 : Nat) : Int) := by omega
      have q2 : ((k + 1 : Nat) : Int) < (n : Int) := by omega
      have d1 := Row.read HR.out (i := k + 1) (by omega)
      go_wp2
      exact ⟨⟨k + 1, by simp [mxf]; split <;> omega, rfl, hlt⟩, by simp [intOf]; omega⟩
    · have g1 : decide (((k + 1 : Nat) : Int) < (n : Int)) = false := by simp; omega
      obtain rfl : n = k + 1 := by omega
      go_wp2
      go_ret
      exact ⟨rfl, rfl⟩
theorem bl (l : List UInt8) : (⟨l.toArray⟩ : ByteArray).toList = l := by rw [Lib.toList_data]
def mxd (c : Int) : Int := mxf (ixf c) (nl c - 1)
theorem mxd_eq {c : Int} (h : isC c = true) : 1 + mxd c = (ndim c : Nat) := by
  rcases code_in h with rfl | rfl | rfl | rfl | rfl | rfl | rfl | rfl <;> decide
set_option maxRecDepth 100000 in
theorem Dims_any (c : Int) (w : World) : Calls Tryz.prog 69 #[.int .i64 c] w fun e w' => e = .returned (.tuple #[.int .i64 (ndim c : Nat), .int .i64 (if isC c then 0 else 11)]) ∧ Below w.heap.size w w' := by
  have hd := fun W => dir_any c W
  cases h : isC c
  · rw [dirS_no h] at hd
    rw [ndim_no h]
    have he : (⟨([] : List UInt8).toArray⟩ : ByteArray).toList.isEmpty = true := by rw [bl]; rfl
    clear h
    generalize (⟨([] : List UInt8).toArray⟩ : ByteArray) = D at *
    go_enter Tryz.func69, Tryz.ntmps69
    go_wp2_with (go_at_call 97; (with_reducible refine (hd _).mono ?_); rintro e w1 ⟨rfl, rfl⟩)
    exact bodyPost_ret (v := .tuple #[.int .i64 0, .int .i64 11]) (by simp [results, Tryz.results69, go_sem]) rfl ⟨by simp, Below.refl _ _⟩
  · have hx := fun W => dims_any h W
    have hm := fun g W (k : Row W g (mc c) (ixf c)) => max_any g (nl c) (mc c) (mc c) (ixf c) W k (nl_pos h) (nl_mc h) (Nat.le_trans (nl_le h) (by decide))
    have he : (⟨(dirS c).toArray⟩ : ByteArray).toList.isEmpty = false := by
      rw [bl]; unfold isC at h; simpa using h
    have e1 := mxd_eq h
    have e2 : ndim c ≤ 5 := ndim_le c
    change ∀ g W, Row W g (mc c) (ixf c) → Calls Tryz.prog 98 #[.slice (some ⟨g, 0, none⟩) (nl c) (mc c)] W fun e w' => e = .returned (.int .i64 (mxd c)) ∧ W = w' at hm
    generalize (⟨(dirS c).toArray⟩ : ByteArray) = D at *
    generalize mxd c = X at *
    generalize nl c = n at *
    generalize mc c = m at *
    generalize ixf c = f at *
    generalize ndim c = d at *
    have W1 : IntKind.i64.wrap (1 + X) = (d : Int) := by rw [IntWalk.i64_in _ (by omega)]; omega
    go_enter Tryz.func69, Tryz.ntmps69
    go_wp2_with (first
      | (go_at_call 97; (with_reducible refine (hd _).mono ?_); rintro e w1 ⟨rfl, rfl⟩)
      | (go_at_call 99; (with_reducible refine (hx _).mono ?_); rintro e w1 ⟨g, rfl, hR, hb, hg⟩)
      | (go_at_call 98; (with_reducible refine (hm g _ hR).mono ?_); rintro e w2 ⟨rfl, rfl⟩))
    exact bodyPost_ret (v := .tuple #[.int .i64 d, .int .i64 0]) (by simp [results, Tryz.results69, go_sem]) rfl ⟨by simp, hb⟩
/-- All of them are positive, and together within a bound. -/
def fitB : Int → List Int → Bool
  | _, [] => true
  | b, x :: r => decide (1 ≤ x) && decide (x ≤ b) && fitB (b - x) r
theorem fitB_app : ∀ (l r : List Int) (b : Int), fitB b (l ++ r) = (fitB b l && fitB (b - l.sum) r)
  | [], r, b => by simp [fitB]
  | x :: l, r, b => by
    have e : b - x - l.sum = b - (x + l.sum) := by omega
    simp only [List.cons_append, fitB, fitB_app l r, List.sum_cons, Bool.and_assoc, e]
theorem fitB_sum : ∀ (l : List Int) (b : Int), 0 ≤ b → fitB b l = true → 0 ≤ l.sum ∧ l.sum ≤ b
  | [], b, h, _ => by simp; exact h
  | x :: l, b, h, k => by
    simp only [fitB, Bool.and_eq_true, decide_eq_true_eq] at k
    have := fitB_sum l (b - x) (by omega) k.2
    simp only [List.sum_cons]; omega
theorem fitB_mem : ∀ (l : List Int) (b : Int), fitB b l = true → 0 ≤ b → ∀ x ∈ l, 1 ≤ x ∧ x ≤ b
  | [], _, _, _, _, h => by cases h
  | y :: l, b, k, hb, x, h => by
    simp only [fitB, Bool.and_eq_true, decide_eq_true_eq] at k
    rcases List.mem_cons.1 h with rfl | h
    · omega
    · have := fitB_mem l (b - y) k.2 (by omega) x h; omega
theorem fitB_step {l : List Int} {k : Nat} (hk : k < l.length) {b : Int} (h : fitB b (l.take k) = true) : fitB b (l.take (k + 1)) = (decide (1 ≤ l[k]) && decide (l[k] ≤ b - (l.take k).sum)) := by
  rw [List.take_succ_eq_append_getElem hk, fitB_app, h]; simp [fitB]
theorem fitB_take {l : List Int} (k : Nat) {b : Int} (h : fitB b (l.take k) = false) : fitB b l = false := by
  rw [← List.take_append_drop k l, fitB_app, h]; rfl
set_option maxRecDepth 100000 in
theorem fit_any (v : Value) (zs : List Int) (w : World) (hR : Rdz w v zs) (hl : zs.length ≤ maxLen) :
    Calls Tryz.prog 70 #[v] w fun e w' => e = .returned (.bool (fitB 262144 zs)) ∧ w = w' := by
  unfold maxLen at hl
  obtain ⟨q, c, rfl, k1⟩ := hR
  have K1 := Lib.hid k1
  clear k1
  go_enter Tryz.func70, Tryz.ntmps70
  go_wp2
  go_loop [3, 8] (fun v3 v8 => ∃ (k : Nat) (s : Int), v8 = .int .i64 k ∧ v3 = .int .i64 s ∧ k ≤ zs.length ∧ 0 ≤ s ∧ s ≤ 262144 ∧ Hid (fitB 262144 (zs.take k) = true ∧ s = 262144 - (zs.take k).sum)) (fun _ v => zs.length - (intOf v).toNat)
  case atStart => exact ⟨0, 262144, rfl, rfl, Nat.zero_le _, by omega, by omega, Lib.hid ⟨rfl, rfl⟩⟩
  case round =>
    obtain ⟨k, s, rfl, rfl, hk, s0, s1, hG⟩ := hrel
    by_cases hlt : k < zs.length
    · have g1 : decide ((k : Int) < (zs.length : Int)) = true := by simp [hlt]
      have W1 : IntKind.i64.wrap ((k : Int) + 1) = ((k + 1 : Nat) : Int) := by rw [IntWalk.i64_in _ (by omega)]; omega
      have q1 : (0 : Int) ≤ (k : Int) := by omega
      have q2 : (k : Int) < (zs.length : Int) := by omega
      obtain ⟨a, rfl, d0⟩ := K1.out k hlt
      obtain ⟨y, hyy⟩ : ∃ y, y = zs[k] := ⟨_, rfl⟩
      have hs : Hid (fitB 262144 (zs.take (k + 1)) = (decide (1 ≤ y) && decide (y ≤ s)) ∧ (zs.take (k + 1)).sum = 262144 - s + y) := Lib.hid (by
        rw [fitB_step hlt hG.out.1, hyy, hG.out.2]
        refine ⟨rfl, ?_⟩
        rw [List.take_succ_eq_append_getElem hlt, List.sum_append]; simp; omega)
      rw [← hyy] at d0
      clear hyy hG
      by_cases e : y < 1
      · have t1 : decide (y < 1) = true := by simp [e]
        have HE : Hid (fitB 262144 zs = false) := Lib.hid (fitB_take (k + 1) (by rw [hs.out.1]; simp; omega))
        clear e hs
        go_wp2
        go_ret
        exact ⟨by rw [HE.out]; rfl, rfl⟩
      · have t1 : decide (y < 1) = false := by simp; omega
        by_cases e2 : s < y
        · have t2 : decide (s < y) = true := by simp [e2]
          have t3 : decide (y > s) = true := by simp; omega
          have HE : Hid (fitB 262144 zs = false) := Lib.hid (fitB_take (k + 1) (by rw [hs.out.1]; simp; omega))
          clear e e2 hs
          go_wp2
          go_ret
          exact ⟨by rw [HE.out]; rfl, rfl⟩
        · have t2 : decide (s < y) = false := by simp; omega
          have t3 : decide (y > s) = false := by simp; omega
          have W2 : IntKind.i64.wrap (s - y) = s - y := IntWalk.i64_in _ (by omega)
          have HG : Hid (fitB 262144 (zs.take (k + 1)) = true ∧ s - y = 262144 - (zs.take (k + 1)).sum) := Lib.hid ⟨by rw [hs.out.1]; simp; omega, by rw [hs.out.2]; omega⟩
          clear hs
          go_wp2
          exact ⟨⟨k + 1, s - y, rfl, rfl, hlt, by omega, by omega, HG⟩, by simp [intOf]; omega⟩
    · have g1 : decide ((k : Int) < (zs.length : Int)) = false := by simp; omega
      have HE : Hid (fitB 262144 zs = true) := Lib.hid (by
        have := hG.out.1
        rwa [List.take_of_length_le (by omega)] at this)
      go_wp2
      go_ret
      exact ⟨by rw [HE.out]; rfl, rfl⟩
def abz (n : Int) : Int := if n < 0 then -n else n
theorem size_any (n : Int) (w : World) (h : -1000000000 ≤ n ∧ n ≤ 1000000000) : Calls Tryz.prog 160 #[.int .i64 n] w fun e w' => e = .returned (.int .i64 (abz n)) ∧ w = w' := by
  have W1 : IntKind.i64.wrap (-n) = -n := IntWalk.i64_in _ (by omega)
  unfold abz
  by_cases k : n < 0
  · have t : decide (n < 0) = true := by simp [k]
    rw [if_pos k]
    go_enter Tryz.func160, Tryz.ntmps160
    go_wp2
    go_ret
    exact ⟨rfl, rfl⟩
  · have t : decide (n < 0) = false := by simp; omega
    rw [if_neg k]
    go_enter Tryz.func160, Tryz.ntmps160
    go_wp2
    go_ret
    exact ⟨rfl, rfl⟩
end Go.Proofs.YthdafpbmmfelpaaGreatDoor
namespace Go.Proofs.YthdafpbmmfelpaaGreatDoor
open Go.ChangeShapes Go.WideShapes Go.ChangeAt Go.RowKit
set_option linter.unusedVariables false
set_option linter.unusedSimpArgs false
def sz : List Int := [6, 8, 10, 12, 16, 20, 25, 32, 40]
/-- The row of the sizes fills block g. -/
def Zs (w : World) (g : Nat) : Prop := Has w g 3 #[.int .i64 6, .int .i64 8, .int .i64 10, .int .i64 12, .int .i64 16, .int .i64 20, .int .i64 25, .int .i64 32, .int .i64 40]
theorem Zs.on {w w' : World} {g : Nat} (h : Zs w g) (hb : Below w.heap.size w w') : Zs w' g := Has.on h hb
theorem Zs.size_ {w : World} {g : Nat} (h : Zs w g) : g < w.heap.size := Has.size_ h
theorem sz_len : sz.length = 9 := rfl
theorem Zs.read {w : World} {g : Nat} (h : Zs w g) {k : Nat} (hk : k < 9) : w.cell? ⟨g, k, none⟩ = some (.int .i64 (sz[k]'hk)) := by
  unfold Zs at h
  rw [Has.read h k]
  match k, hk with
  | 0, _ => rfl
  | 1, _ => rfl
  | 2, _ => rfl
  | 3, _ => rfl
  | 4, _ => rfl
  | 5, _ => rfl
  | 6, _ => rfl
  | 7, _ => rfl
  | 8, _ => rfl
theorem Zs.rdz {w : World} {g : Nat} (h : Zs w g) : Rdz w (.slice (some ⟨g, 0, none⟩) 9 9) sz := by
  refine ⟨_, 9, rfl, fun j hj => ⟨_, rfl, ?_⟩⟩
  rw [Addr.add_lit, Nat.zero_add]
  exact h.read hj
theorem sizes_any (w : World) : Calls Tryz.prog 31 #[] w fun e w' => ∃ g, e = .returned (.slice (some ⟨g, 0, none⟩) 9 9) ∧ Zs w' g ∧ Below w.heap.size w w' ∧ w.heap.size ≤ g := by
  go_enter Tryz.func31, Tryz.ntmps31
  go_wp2
  go_ret
  exact ⟨w.heap.size, rfl, Has.new_ w 3 _, al1 w _, Nat.le_refl _⟩
theorem rsizes_any (w : World) : Calls Tryz.prog 92 #[] w fun e w' => ∃ g, e = .returned (.slice (some ⟨g, 0, none⟩) 9 9) ∧ Zs w' g ∧ Below w.heap.size w w' ∧ w.heap.size ≤ g := by
  go_enter Tryz.func92, Tryz.ntmps92
  go_wp2
  go_ret
  exact ⟨w.heap.size, rfl, Has.new_ w 3 _, al1 w _, Nat.le_refl _⟩
def ixo (zs : List Int) (x : Int) : Int := match zs.findIdx? (· == x) with | some i => (i : Int) | none => -1
theorem findIdx_some {zs : List Int} {x : Int} {k : Nat} (hk : k < zs.length) (h : ∀ (j : Nat) (hj : j < zs.length), j < k → zs[j] ≠ x) (e : zs[k] = x) : ixo zs x = k := by
  have : zs.findIdx? (· == x) = some k := by
    rw [List.findIdx?_eq_some_iff_getElem]
    exact ⟨hk, by simp [e], fun j hj => by simpa using h j (by omega) hj⟩
  unfold ixo; rw [this]
theorem findIdx_none {zs : List Int} {x : Int} (h : ∀ (j : Nat) (hj : j < zs.length), zs[j] ≠ x) : ixo zs x = -1 := by
  have : zs.findIdx? (· == x) = none := by
    rw [List.findIdx?_eq_none_iff]
    intro y hy
    obtain ⟨j, hj, rfl⟩ := List.getElem_of_mem hy
    simpa using h j hj
  unfold ixo; rw [this]
theorem ixo_pos (zs : List Int) (x : Int) : decide (0 ≤ ixo zs x) = zs.contains x := by
  unfold ixo
  cases h : zs.findIdx? (· == x) with
  | some i =>
    have := (List.findIdx?_eq_some_iff_getElem.1 h)
    obtain ⟨hi, e, -⟩ := this
    have : zs.contains x = true := by
      rw [List.contains_iff_mem]
      have e' : zs[i] = x := by simpa using e
      rw [← e']; exact List.getElem_mem hi
    rw [this]; simp
  | none =>
    have := List.findIdx?_eq_none_iff.1 h
    have : zs.contains x = false := by
      cases c : zs.contains x
      · rfl
      · have := this x (List.contains_iff_mem.1 c)
        simp at this
    rw [this]; rfl
set_option maxRecDepth 100000 in
theorem index_any (v : Value) (zs : List Int) (x : Int) (w : World) (hR : Rdz w v zs) (hl : zs.length ≤ 100000) :
    Calls Tryz.prog 113 #[v, .int .i64 x] w fun e w' => e = .returned (.int .i64 (ixo zs x)) ∧ w = w' := by
  obtain ⟨q, c, rfl, k1⟩ := hR
  have K1 := Lib.hid k1
  clear k1
  go_enter Tryz.func113, Tryz.ntmps113
  go_wp2
  go_loop [8] (fun v => ∃ k : Nat, v = .int .i64 k ∧ k ≤ zs.length ∧ Hid (∀ (j : Nat) (hj : j < zs.length), j < k → zs[j] ≠ x)) (fun v => zs.length - (intOf v).toNat)
  case atStart => exact ⟨0, rfl, Nat.zero_le _, Lib.hid (fun j _ h => absurd h (Nat.not_lt_zero j))⟩
  case round =>
    obtain ⟨k, rfl, hk, hG⟩ := hrel
    by_cases hlt : k < zs.length
    · have g1 : decide ((k : Int) < (zs.length : Int)) = true := by simp [hlt]
      have W1 : IntKind.i64.wrap ((k : Int) + 1) = ((k + 1 : Nat) : Int) := by rw [IntWalk.i64_in _ (by omega)]; omega
      have q1 : (0 : Int) ≤ (k : Int) := by omega
      have q2 : (k : Int) < (zs.length : Int) := by omega
      obtain ⟨a, rfl, d0⟩ := K1.out k hlt
      obtain ⟨y, hyy⟩ : ∃ y, y = zs[k] := ⟨_, rfl⟩
      rw [← hyy] at d0
      have HY := Lib.hid hyy
      clear hyy
      by_cases e : x = y
      · have t1 : (x == y) = true := by simp [e]
        have t2 : (y == x) = true := by simp [e]
        have HE : Hid (ixo zs x = k) := Lib.hid (findIdx_some hlt hG.out (by rw [← HY.out, e]))
        clear e
        go_wp2
        go_ret
        exact ⟨by rw [HE.out]; rfl, rfl⟩
      · have t1 : (x == y) = false := by simpa using e
        have t2 : (y == x) = false := by simpa using fun h => e h.symm
        have HG : Hid (∀ (j : Nat) (hj : j < zs.length), j < k + 1 → zs[j] ≠ x) := Lib.hid fun j hj h => by
          rcases Nat.lt_or_ge j k with h1 | h1
          · exact hG.out j hj h1
          · have : j = k := by omega
            subst this
            rw [← HY.out]; exact fun h => e h.symm
        clear e
        go_wp2
        exact ⟨⟨k + 1, rfl, hlt, HG⟩, by simp [intOf]; omega⟩
    · have g1 : decide ((k : Int) < (zs.length : Int)) = false := by simp; omega
      have HE : Hid (ixo zs x = -1) := Lib.hid (findIdx_none fun j hj => hG.out j hj (by omega))
      go_wp2
      go_ret
      exact ⟨by rw [HE.out]; rfl, rfl⟩
set_option maxRecDepth 100000 in
theorem containsz_any (v : Value) (zs : List Int) (x : Int) (w : World) (hR : Rdz w v zs) (hl : zs.length ≤ 100000) :
    Calls Tryz.prog 85 #[v, .int .i64 x] w fun e w' => e = .returned (.bool (zs.contains x)) ∧ w = w' := by
  have hp := ixo_pos zs x
  obtain ⟨i, hi⟩ : ∃ i, i = ixo zs x := ⟨_, rfl⟩
  have hc := fun W h => index_any v zs x W h hl
  rw [← hi] at hp hc
  have HP := Lib.hid hp
  clear hi hp
  go_enter Tryz.func85, Tryz.ntmps85
  go_wp2_with (go_at_call 113; (with_reducible refine (hc _ hR).mono ?_); rintro e w' ⟨rfl, rfl⟩)
  go_ret
  exact ⟨by rw [← HP.out]; rfl, rfl⟩
def isz (d : Int) : Bool := sz.contains d
theorem isz_any (d : Int) (w : World) : Calls Tryz.prog 50 #[.int .i64 d] w fun e w' => e = .returned (.bool (isz d)) ∧ Below w.heap.size w w' := by
  have hc := fun g W (h : Zs W g) => containsz_any (.slice (some ⟨g, 0, none⟩) 9 9) sz d W h.rdz (by decide)
  have he : isz d = sz.contains d := rfl
  rw [← he] at hc
  clear he
  generalize isz d = b at *
  go_enter Tryz.func50, Tryz.ntmps50
  go_wp2_with (first
    | (go_at_call 31; (with_reducible refine (sizes_any _).mono ?_); rintro e w1 ⟨g, rfl, hZ, hb, hg⟩)
    | (go_at_call 85; (with_reducible refine (hc g _ hZ).mono ?_); rintro e w' ⟨rfl, rfl⟩))
  go_ret
  exact ⟨rfl, hb⟩
set_option maxRecDepth 100000 in
theorem riz_any (x : Int) (w : World) : Calls Tryz.prog 55 #[.int .i64 x] w fun e w' => e = .returned (.bool (isz x)) ∧ Below w.heap.size w w' := by
  go_enter Tryz.func55, Tryz.ntmps55
  go_wp2_with (go_at_call 92; (with_reducible refine (rsizes_any _).mono ?_); rintro e w1 ⟨g, rfl, hZ, hb, hg⟩)
  go_loop [4] (fun v => ∃ k : Nat, v = .int .i64 k ∧ k ≤ 9 ∧ Hid (∀ (j : Nat) (hj : j < 9), j < k → sz[j]'hj ≠ x)) (fun v => 9 - (intOf v).toNat)
  case atStart => exact ⟨0, rfl, Nat.zero_le _, Lib.hid (fun j _ h => absurd h (Nat.not_lt_zero j))⟩
  case round =>
    obtain ⟨k, rfl, hk, hG⟩ := hrel
    by_cases hlt : k < 9
    · have g1 : decide ((k : Int) < 9) = true := by simp; omega
      have W1 : IntKind.i64.wrap ((k : Int) + 1) = ((k + 1 : Nat) : Int) := by rw [IntWalk.i64_in _ (by omega)]; omega
      have q1 : (0 : Int) ≤ (k : Int) := by omega
      have q2 : (k : Int) < 9 := by omega
      have d0 := hZ.read hlt
      obtain ⟨y, hyy⟩ : ∃ y, y = sz[k]'hlt := ⟨_, rfl⟩
      rw [← hyy] at d0
      have HY := Lib.hid hyy
      clear hyy
      by_cases e : x = y
      · have t1 : (x == y) = true := by simp [e]
        have t2 : (y == x) = true := by simp [e]
        have HE : Hid (isz x = true) := Lib.hid (by unfold isz; rw [List.contains_iff_mem, e, HY.out]; exact List.getElem_mem hlt)
        clear e
        go_wp2
        go_ret
        exact ⟨by rw [HE.out]; rfl, hb⟩
      · have t1 : (x == y) = false := by simpa using e
        have t2 : (y == x) = false := by simpa using fun h => e h.symm
        have HG : Hid (∀ (j : Nat) (hj : j < 9), j < k + 1 → sz[j]'hj ≠ x) := Lib.hid fun j hj h => by
          rcases Nat.lt_or_ge j k with h1 | h1
          · exact hG.out j hj h1
          · have : j = k := by omega
            subst this
            rw [← HY.out]; exact fun h => e h.symm
        clear e
        go_wp2
        exact ⟨⟨k + 1, rfl, hlt, HG⟩, by simp [intOf]; omega⟩
    · have g1 : decide ((k : Int) < 9) = false := by simp; omega
      have HE : Hid (isz x = false) := Lib.hid (by
        unfold isz
        cases h : sz.contains x
        · rfl
        · obtain ⟨j, hj, e⟩ := List.getElem_of_mem (List.contains_iff_mem.1 h)
          have hj' : j < 9 := hj
          exact absurd e (hG.out j hj (by omega)))
      go_wp2
      go_ret
      exact ⟨by rw [HE.out]; rfl, hb⟩
end Go.Proofs.YthdafpbmmfelpaaGreatDoor
