/- What a walk keeps: the blocks that it laid, as they are known, the newest first. -/
import Derived.Test.YtmfclelnaceonaaBas
namespace Go.Proofs.Ytmfclelnaceonaa
open Go.ChangeShapes Go.WideShapes Go.ChangeAt Go.RowKit
set_option linter.unusedVariables false
set_option linter.unusedSimpArgs false

structure Fb where
  g : Nat
  t : TypeId
  cs : Array Value
def CF (w : World) (g : Nat) : Nat → List Value → Prop
  | _, [] => True
  | o, v :: l => (w.cell? ⟨g, o, none⟩ = some v ∧ w.frozen? ⟨g, o, none⟩ = false) ∧ CF w g (o + 1) l
def BC (w : World) : List Fb → Prop
  | [] => True
  | x :: l => (x.g < w.heap.size ∧ CF w x.g 0 x.cs.toList) ∧ BC w l
def Blk (B : Nat) (w : World) : List Fb → Prop
  | [] => True
  | x :: l => B ≤ x.g ∧ Has w x.g x.t x.cs ∧ (∀ y ∈ l, y.g ≠ x.g) ∧ Blk B w l
theorem cf_of {w : World} {g : Nat} {t : TypeId} {cs : Array Value} (h : Has w g t cs) : ∀ (l : List Value) (o : Nat), cs.toList.drop o = l → CF w g o l
  | [], _, _ => trivial
  | v :: l, o, e => by
    refine ⟨⟨?_, h.open_ o⟩, cf_of h l (o + 1) (by rw [← List.drop_drop, e]; rfl)⟩
    rw [h.read o, ← Array.getElem?_toList, ← List.head?_drop, e]; rfl
theorem Blk.cells {B : Nat} {w : World} : ∀ {l : List Fb}, Blk B w l → BC w l
  | [], _ => trivial
  | _ :: _, h => ⟨⟨h.2.1.size_, cf_of h.2.1 _ 0 rfl⟩, Blk.cells h.2.2.2⟩
theorem Blk.on {B : Nat} {w w1 : World} (hb : Below w.heap.size w w1) : ∀ {l : List Fb}, Blk B w l → Blk B w1 l
  | [], _ => trivial
  | _ :: _, h => ⟨h.1, h.2.1.on hb, h.2.2.1, Blk.on hb h.2.2.2⟩
theorem Blk.lt {B : Nat} {w : World} : ∀ {l : List Fb}, Blk B w l → ∀ y ∈ l, y.g < w.heap.size
  | [], _, _, hy => by cases hy
  | x :: l, h, y, hy => by
    rcases List.mem_cons.1 hy with rfl | hy
    · exact h.2.1.size_
    · exact Blk.lt h.2.2.2 y hy
theorem Blk.ge {B : Nat} {w : World} : ∀ {l : List Fb}, Blk B w l → ∀ y ∈ l, B ≤ y.g
  | [], _, _, hy => by cases hy
  | x :: l, h, y, hy => by
    rcases List.mem_cons.1 hy with rfl | hy
    · exact h.1
    · exact Blk.ge h.2.2.2 y hy
theorem Blk.far {B : Nat} {w : World} {p : Addr} (u : Value) : ∀ {l : List Fb}, Blk B w l → (∀ y ∈ l, y.g ≠ p.block) → Blk B (w.setCell p u) l
  | [], _, _ => trivial
  | _ :: _, h, k => ⟨h.1, h.2.1.apart_ (k _ (List.mem_cons_self ..)) _, h.2.2.1, Blk.far u h.2.2.2 fun y hy => k y (List.mem_cons_of_mem _ hy)⟩
def setB (i : Nat) (u : Value) : Nat → List Fb → List Fb
  | _, [] => []
  | 0, x :: l => ⟨x.g, x.t, x.cs.setIfInBounds i u⟩ :: l
  | k + 1, x :: l => x :: setB i u k l
def numB : Nat → List Fb → Nat
  | _, [] => 0
  | 0, x :: _ => x.g
  | k + 1, _ :: l => numB k l
theorem setB_g (i : Nat) (u : Value) : ∀ (k : Nat) (l : List Fb), (setB i u k l).map (·.g) = l.map (·.g)
  | _, [] => by cases ‹Nat› <;> rfl
  | 0, x :: l => rfl
  | k + 1, x :: l => by simp [setB, setB_g i u k l]
theorem numB_mem : ∀ (k : Nat) (l : List Fb), k < l.length → numB k l ∈ l.map (·.g)
  | _, [], h => by simp at h
  | 0, x :: l, _ => by simp [numB]
  | k + 1, x :: l, h => by simp only [numB, List.map_cons, List.mem_cons]; right; exact numB_mem k l (by simpa using h)
theorem Blk.put {B : Nat} {w : World} (i : Nat) (u : Value) : ∀ (k : Nat) {l : List Fb}, Blk B w l → k < l.length → Blk B (w.setCell ⟨numB k l, i, none⟩ u) (setB i u k l)
  | _, [], _, h => by simp at h
  | 0, x :: l, h, _ => ⟨h.1, h.2.1.put_ i u, h.2.2.1, Blk.far u h.2.2.2 fun y hy => h.2.2.1 y hy⟩
  | k + 1, x :: l, h, hk => by
    have hk' : k < l.length := by simpa using hk
    have m := numB_mem k l hk'
    obtain ⟨y, hy, e⟩ := List.mem_map.1 m
    refine ⟨h.1, h.2.1.apart_ ?_ _, ?_, Blk.put i u k h.2.2.2 hk'⟩
    · have := h.2.2.1 y hy; simp only [numB]; omega
    · intro z hz
      have : z.g ∈ (setB i u k l).map (·.g) := List.mem_map.2 ⟨z, hz, rfl⟩
      rw [setB_g] at this
      obtain ⟨y', hy', e'⟩ := List.mem_map.1 this
      rw [← e']; exact h.2.2.1 y' hy'
def Env (w0 w : World) (l : List Fb) : Prop := Below w0.heap.size w0 w ∧ Blk w0.heap.size w l
theorem Env.nil (w : World) : Env w w [] := ⟨Below.refl _ _, trivial⟩
theorem Env.on {w0 w w1 : World} {l : List Fb} (h : Env w0 w l) (hb : Below w.heap.size w w1) : Env w0 w1 l := ⟨belows h.1 hb, h.2.on hb⟩
theorem Env.add {w0 w : World} {l : List Fb} (h : Env w0 w l) (n : Nat) (t : TypeId) (cs : Array Value) (e : w.heap.size = n) : Env w0 (w.alloc (.cells cs t)) (⟨n, t, cs⟩ :: l) := by
  subst e
  exact ⟨al h.1 _, h.1.size, Has.new_ _ _ _, fun y hy => Nat.ne_of_lt (h.2.lt y hy), h.2.on (al1 _ _)⟩
theorem Env.more {w0 w : World} {l : List Fb} (h : Env w0 w l) (o : Obj) : Env w0 (w.alloc o) l := h.on (al1 _ _)
theorem Env.drw {w0 w : World} {l : List Fb} (h : Env w0 w l) : Env w0 w.drew l := h.on (Below.drew (Below.refl _ _))
theorem Env.dr {w0 w : World} {l : List Fb} (h : Env w0 w l) (n : Nat) : Env w0 (w.drewN n) l := h.on (below_drewN (Below.refl _ _) n)
theorem Env.put {w0 w : World} {l : List Fb} (h : Env w0 w l) (k i : Nat) (u : Value) (hb : Nat.blt k l.length = true) : Env w0 (w.setCell ⟨numB k l, i, none⟩ u) (setB i u k l) := by
  have hk : k < l.length := by simpa using hb
  refine ⟨h.1.setCell ?_ _, h.2.put i u k hk⟩
  obtain ⟨y, hy, e⟩ := List.mem_map.1 (numB_mem k l hk)
  have := h.2.ge y hy; simp only; omega
theorem Env.cells {w0 w : World} {l : List Fb} (h : Env w0 w l) : BC w l := h.2.cells
theorem Env.tail {w0 w : World} {l : List Fb} {x : Fb} (h : Env w0 w (x :: l)) : Env w0 w l := ⟨h.1, h.2.2.2.2⟩
theorem Env.lt {w0 w : World} {l : List Fb} (h : Env w0 w l) (k : Nat) (hk : k < l.length) : numB k l < w.heap.size := by
  obtain ⟨y, hy, e⟩ := List.mem_map.1 (numB_mem k l hk)
  have := h.2.lt y hy; omega
theorem Env.swap {w0 w : World} {l : List Fb} {x y : Fb} (h : Env w0 w (x :: y :: l)) : Env w0 w (y :: x :: l) := by
  obtain ⟨hb, h1, h2, h3, h4, h5, h6, h7⟩ := h
  refine ⟨hb, h4, h5, ?_, h1, h2, ?_, h7⟩
  · intro z hz
    rcases List.mem_cons.1 hz with rfl | hz
    · exact fun e => h3 y (List.mem_cons_self ..) e.symm
    · exact h6 z hz
  · exact fun z hz => h3 z (List.mem_cons_of_mem _ hz)
theorem sz1 {w : World} {o : Obj} {n : Nat} (h : w.heap.size = n) : (w.alloc o).heap.size = n + 1 := by simp [h]
theorem Env.six {w0 w : World} {l : List Fb} {u0 u1 u2 u3 u4 u5 : Value} (h : Env w0 w l) (k : Nat) (hb : Nat.blt k l.length = true) :
    Env w0 ((((((w.setCell ⟨numB k l, 0, none⟩ u0).setCell ⟨numB k l, 1, none⟩ u1).setCell ⟨numB k l, 2, none⟩ u2).setCell ⟨numB k l, 3, none⟩ u3).setCell ⟨numB k l, 4, none⟩ u4).setCell ⟨numB k l, 5, none⟩ u5) (setB 5 u5 k (setB 4 u4 k (setB 3 u3 k (setB 2 u2 k (setB 1 u1 k (setB 0 u0 k l)))))) := by
  have e : ∀ (k : Nat) (l : List Fb) (i : Nat) (u : Value), numB k (setB i u k l) = numB k l := by
    intro k l i u
    induction l generalizing k with
    | nil => cases k <;> rfl
    | cons x l ih => cases k with
      | zero => rfl
      | succ k => exact ih k
  have e2 : ∀ (k : Nat) (l : List Fb) (i : Nat) (u : Value), (setB i u k l).length = l.length := by
    intro k l i u
    have := congrArg List.length (setB_g i u k l); simpa using this
  have h0 := h.put k 0 u0 hb
  have h1 := h0.put k 1 u1 (by rw [e2]; exact hb)
  have h2 := h1.put k 2 u2 (by rw [e2, e2]; exact hb)
  have h3 := h2.put k 3 u3 (by rw [e2, e2, e2]; exact hb)
  have h4 := h3.put k 4 u4 (by rw [e2, e2, e2, e2]; exact hb)
  have h5 := h4.put k 5 u5 (by rw [e2, e2, e2, e2, e2]; exact hb)
  simp only [e] at h5
  exact h5
theorem Env.cong {w0 w : World} {l l' : List Fb} (h : Env w0 w l) (e : l = l') : Env w0 w l' := e ▸ h
end Go.Proofs.Ytmfclelnaceonaa
