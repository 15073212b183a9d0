/- What a walk keeps where blocks of fractions are written again. -/
import Derived.Test.YtbbbmlnggehcdaaDoorEnv
namespace Go.Proofs.YtbbbmlnggehcdaaDoor
open Go.ChangeShapes Go.WideShapes Go.ChangeAt Go.RowKit Go.Shelf
set_option linter.unusedVariables false

def Dist : List Fb → Prop
  | [] => True
  | x :: l => (∀ y ∈ l, y.g ≠ x.g) ∧ Dist l
def BC2 (w : World) : List Fb → Prop
  | [] => True
  | x :: l => (w.cell? ⟨x.g, 0, none⟩ = some (.int .i64 x.n) ∧ w.cell? ⟨x.g, 1, none⟩ = some (.int .i64 x.d) ∧ x.g < w.heap.size ∧ w.frozen? ⟨x.g, 0, none⟩ = false ∧ w.frozen? ⟨x.g, 1, none⟩ = false) ∧ BC2 w l
theorem Blk.cells2 {w : World} : ∀ {l : List Fb}, Blk w l → BC2 w l
  | [], _ => trivial
  | _ :: _, h => ⟨⟨h.1.read 0, h.1.read 1, h.1.size_, h.1.open_ 0, h.1.open_ 1⟩, Blk.cells2 h.2⟩
theorem Blk.lt {w : World} : ∀ {l : List Fb}, Blk w l → ∀ x ∈ l, x.g < w.heap.size
  | [], _, x, hx => by cases hx
  | _ :: _, h, x, hx => by
    rcases List.mem_cons.1 hx with rfl | k
    · exact h.1.size_
    · exact Blk.lt h.2 x k
theorem Blk.set_ {w : World} {g : Nat} (u v : Value) : ∀ {l : List Fb}, Blk w l → (∀ x ∈ l, x.g ≠ g) → Blk ((w.setCell ⟨g, 0, none⟩ u).setCell ⟨g, 1, none⟩ v) l
  | [], _, _ => trivial
  | x :: l, h, hn => ⟨(h.1.apart_ (hn x (List.mem_cons_self)) _).apart_ (hn x (List.mem_cons_self)) _, Blk.set_ u v h.2 fun y hy => hn y (List.mem_cons_of_mem _ hy)⟩
def Env2 (w0 w : World) (l : List Fb) : Prop := Env w0 w l ∧ Dist l ∧ ∀ x ∈ l, w0.heap.size ≤ x.g
theorem Env2.on {w0 w w1 : World} {l : List Fb} (h : Env2 w0 w l) (hb : Below w.heap.size w w1) : Env2 w0 w1 l := ⟨h.1.on hb, h.2⟩
theorem Env2.add {w0 w : World} {l : List Fb} (h : Env2 w0 w l) (n d : Int) : Env2 w0 (w.alloc (.cells #[.int .i64 n, .int .i64 d] 23)) (⟨w.heap.size, n, d⟩ :: l) :=
  ⟨h.1.add n d, ⟨fun y hy => by have := h.1.2.lt y hy; simp only; omega, h.2.1⟩, fun x hx => by
    rcases List.mem_cons.1 hx with rfl | k
    · exact h.1.1.size
    · exact h.2.2 x k⟩
def Far (g : Nat) : List Fb → Prop
  | [] => True
  | y :: l => (¬ y.g = g ∧ ¬ g = y.g) ∧ Far g l
def Dist2 : List Fb → Prop
  | [] => True
  | x :: l => Far x.g l ∧ Dist2 l
theorem far_of {g : Nat} : ∀ {l : List Fb}, (∀ y ∈ l, y.g ≠ g) → Far g l
  | [], _ => trivial
  | y :: l, h => ⟨⟨h y List.mem_cons_self, Ne.symm (h y List.mem_cons_self)⟩, far_of fun z hz => h z (List.mem_cons_of_mem _ hz)⟩
theorem dist2_of : ∀ {l : List Fb}, Dist l → Dist2 l
  | [], _ => trivial
  | _ :: _, h => ⟨far_of h.1, dist2_of h.2⟩
theorem Env2.cells {w0 w : World} {l : List Fb} (h : Env2 w0 w l) : BC2 w l ∧ Dist2 l := ⟨h.1.2.cells2, dist2_of h.2.1⟩
theorem Env2.set0 {w0 w : World} {x : Fb} {l : List Fb} (h : Env2 w0 w (x :: l)) (n d : Int) :
    Env2 w0 ((w.setCell ⟨x.g, 0, none⟩ (.int .i64 n)).setCell ⟨x.g, 1, none⟩ (.int .i64 d)) (⟨x.g, n, d⟩ :: l) := by
  have hg := h.2.2 x List.mem_cons_self
  exact ⟨⟨(h.1.1.setCell hg _).setCell hg _, ((h.1.2.1.put_ 0 _).put_ 1 _), h.1.2.2.set_ _ _ h.2.1.1⟩, ⟨h.2.1.1, h.2.1.2⟩, fun y hy => by
    rcases List.mem_cons.1 hy with rfl | k
    · exact hg
    · exact h.2.2 y (List.mem_cons_of_mem _ k)⟩
theorem Env2.set1 {w0 w : World} {y x : Fb} {l : List Fb} (h : Env2 w0 w (y :: x :: l)) (n d : Int) :
    Env2 w0 ((w.setCell ⟨x.g, 0, none⟩ (.int .i64 n)).setCell ⟨x.g, 1, none⟩ (.int .i64 d)) (y :: ⟨x.g, n, d⟩ :: l) := by
  have hx : x ∈ y :: x :: l := List.mem_cons_of_mem _ List.mem_cons_self
  have hg := h.2.2 x hx
  have hn : x.g ≠ y.g := h.2.1.1 x List.mem_cons_self
  refine ⟨⟨(h.1.1.setCell hg _).setCell hg _, (h.1.2.1.apart_ (Ne.symm hn) _).apart_ (Ne.symm hn) _, (h.1.2.2.1.put_ 0 _).put_ 1 _, h.1.2.2.2.set_ _ _ h.2.1.2.1⟩, ⟨fun z hz => ?_, h.2.1.2.1, h.2.1.2.2⟩, fun z hz => ?_⟩
  · rcases List.mem_cons.1 hz with rfl | k
    · exact hn
    · exact h.2.1.1 z (List.mem_cons_of_mem _ k)
  · rcases List.mem_cons.1 hz with rfl | k
    · exact h.2.2 _ List.mem_cons_self
    · rcases List.mem_cons.1 k with rfl | k
      · exact hg
      · exact h.2.2 z (List.mem_cons_of_mem _ (List.mem_cons_of_mem _ k))
theorem env2_three (w : World) (an ad bn bd cn cd : Int) : Env2 w (((w.alloc (.cells #[.int .i64 an, .int .i64 ad] 23)).alloc (.cells #[.int .i64 bn, .int .i64 bd] 23)).alloc (.cells #[.int .i64 cn, .int .i64 cd] 23)) [⟨w.heap.size + 1 + 1, cn, cd⟩, ⟨w.heap.size + 1, bn, bd⟩, ⟨w.heap.size, an, ad⟩] :=
  ⟨env_three w an ad bn bd cn cd, ⟨by simp; omega, by simp, by simp, trivial⟩, by simp; omega⟩
end Go.Proofs.YtbbbmlnggehcdaaDoor
