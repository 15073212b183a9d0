/- What a walk keeps: blocks of two cells, as they are known. -/
import Derived.Test.YtplepbaafamjfaaSq
namespace Go.Proofs.Ytplepbaafamjfaa
open Go.ChangeShapes Go.WideShapes Go.ChangeAt Go.RowKit
set_option linter.unusedVariables false

theorem Has.on {w w1 : World} {g : Nat} {t : TypeId} {cs : Array Value} (h : Has w g t cs) (hb : Below w.heap.size w w1) : Has w1 g t cs := h.below_ hb h.size_
structure Fb where
  g : Nat
  t : TypeId
  n : Int
  d : Int
def Blk (w : World) : List Fb → Prop
  | [] => True
  | x :: l => Has w x.g x.t #[.int .i64 x.n, .int .i64 x.d] ∧ Blk w l
/-- The facts of the blocks' cells. -/
def BC (w : World) : List Fb → Prop
  | [] => True
  | x :: l => (w.cell? ⟨x.g, 0, none⟩ = some (.int .i64 x.n) ∧ w.cell? ⟨x.g, 1, none⟩ = some (.int .i64 x.d) ∧ x.g < w.heap.size ∧ w.frozen? ⟨x.g, 0, none⟩ = false ∧ w.frozen? ⟨x.g, 1, none⟩ = false) ∧ BC w l
theorem Blk.cells {w : World} : ∀ {l : List Fb}, Blk w l → BC w l
  | [], _ => trivial
  | _ :: _, h => ⟨⟨h.1.read 0, h.1.read 1, h.1.size_, h.1.open_ 0, h.1.open_ 1⟩, Blk.cells h.2⟩
theorem Blk.on {w w1 : World} (hb : Below w.heap.size w w1) : ∀ {l : List Fb}, Blk w l → Blk w1 l
  | [], _ => trivial
  | _ :: _, h => ⟨h.1.on hb, Blk.on hb h.2⟩
theorem Blk.alloc_ {w : World} (o : Obj) {l : List Fb} (h : Blk w l) : Blk (w.alloc o) l := h.on (al1 _ _)
def Env (w0 w : World) (l : List Fb) : Prop := Below w0.heap.size w0 w ∧ Blk w l
theorem Env.on {w0 w w1 : World} {l : List Fb} (h : Env w0 w l) (hb : Below w.heap.size w w1) : Env w0 w1 l := ⟨belows h.1 hb, h.2.on hb⟩
theorem Env.more {w0 w : World} {l : List Fb} (h : Env w0 w l) (o : Obj) : Env w0 (w.alloc o) l := h.on (al1 _ _)
theorem Env.add {w0 w : World} {l : List Fb} (h : Env w0 w l) (n d : Int) (t : TypeId) : Env w0 (w.alloc (.cells #[.int .i64 n, .int .i64 d] t)) (⟨w.heap.size, t, n, d⟩ :: l) :=
  ⟨belows h.1 (al1 _ _), Has.new_ _ _ _, h.2.alloc_ _⟩
theorem Env.dr {w0 w w1 : World} {l : List Fb} (h : Env w0 w l) (hb : Dr w w1) : Env w0 w1 l := h.on (Dr.below' hb)
theorem Env.cells {w0 w : World} {l : List Fb} (h : Env w0 w l) : BC w l := h.2.cells
theorem env_one (w : World) (n d : Int) (t : TypeId) : Env w (w.alloc (.cells #[.int .i64 n, .int .i64 d] t)) [⟨w.heap.size, t, n, d⟩] := ⟨al1 _ _, Has.new_ _ _ _, trivial⟩
theorem env_two (w : World) (an ad bn bd : Int) (t u : TypeId) : Env w ((w.alloc (.cells #[.int .i64 an, .int .i64 ad] t)).alloc (.cells #[.int .i64 bn, .int .i64 bd] u)) [⟨w.heap.size + 1, u, bn, bd⟩, ⟨w.heap.size, t, an, ad⟩] := by
  have h := (env_one w an ad t).add bn bd u
  have s1 : (w.alloc (.cells #[.int .i64 an, .int .i64 ad] t)).heap.size = w.heap.size + 1 := by simp
  rw [s1] at h; exact h
theorem env_three (w : World) (an ad bn bd cn cd : Int) (t u v : TypeId) : Env w (((w.alloc (.cells #[.int .i64 an, .int .i64 ad] t)).alloc (.cells #[.int .i64 bn, .int .i64 bd] u)).alloc (.cells #[.int .i64 cn, .int .i64 cd] v)) [⟨w.heap.size + 1 + 1, v, cn, cd⟩, ⟨w.heap.size + 1, u, bn, bd⟩, ⟨w.heap.size, t, an, ad⟩] := by
  have h := (env_two w an ad bn bd t u).add cn cd v
  have s1 : ((w.alloc (.cells #[.int .i64 an, .int .i64 ad] t)).alloc (.cells #[.int .i64 bn, .int .i64 bd] u)).heap.size = w.heap.size + 1 + 1 := by simp
  rw [s1] at h; exact h
def Yes (w : World) (e : Ending) (w' : World) : Prop := e = .returned (.bool true) ∧ Below w.heap.size w w'
/-- A contract for a call that makes memory, and changes none that was there. -/
def Fn (K : Nat) (args : Array Value) (r : Value) : Prop := ∀ w, Calls Try.prog K args w fun e w' => e = .returned r ∧ Below w.heap.size w w'
end Go.Proofs.Ytplepbaafamjfaa
