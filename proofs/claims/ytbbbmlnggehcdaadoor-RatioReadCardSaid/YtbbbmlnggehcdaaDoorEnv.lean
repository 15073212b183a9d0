/- What a statement's walk keeps: the blocks of its fractions. -/
import Derived.Test.YtbbbmlnggehcdaaDoorAwk
namespace Go.Proofs.YtbbbmlnggehcdaaDoor
open Go.ChangeShapes Go.WideShapes Go.ChangeAt Go.RowKit Go.Shelf
set_option linter.unusedVariables false

structure Fb where
  g : Nat
  n : Int
  d : Int
def Blk (w : World) : List Fb → Prop
  | [] => True
  | x :: l => Has w x.g 23 #[.int .i64 x.n, .int .i64 x.d] ∧ Blk w l
def BC (w : World) : List Fb → Prop
  | [] => True
  | x :: l => (w.cell? ⟨x.g, 0, none⟩ = some (.int .i64 x.n) ∧ w.cell? ⟨x.g, 1, none⟩ = some (.int .i64 x.d) ∧ x.g < w.heap.size) ∧ BC w l
theorem Blk.cells {w : World} : ∀ {l : List Fb}, Blk w l → BC w l
  | [], _ => trivial
  | _ :: _, h => ⟨⟨h.1.read 0, h.1.read 1, h.1.size_⟩, Blk.cells h.2⟩
theorem Blk.on {w w1 : World} (hb : Below w.heap.size w w1) : ∀ {l : List Fb}, Blk w l → Blk w1 l
  | [], _ => trivial
  | _ :: _, h => ⟨h.1.on hb, Blk.on hb h.2⟩
theorem Blk.alloc_ {w : World} (o : Obj) {l : List Fb} (h : Blk w l) : Blk (w.alloc o) l := h.on (al1 _ _)
def Env (w0 w : World) (l : List Fb) : Prop := Below w0.heap.size w0 w ∧ Blk w l
theorem Env.on {w0 w w1 : World} {l : List Fb} (h : Env w0 w l) (hb : Below w.heap.size w w1) : Env w0 w1 l := ⟨belows h.1 hb, h.2.on hb⟩
theorem Env.add {w0 w : World} {l : List Fb} (h : Env w0 w l) (n d : Int) : Env w0 (w.alloc (.cells #[.int .i64 n, .int .i64 d] 23)) (⟨w.heap.size, n, d⟩ :: l) :=
  ⟨belows h.1 (al1 _ _), Has.new_ _ _ _, h.2.alloc_ _⟩
theorem Env.cells {w0 w : World} {l : List Fb} (h : Env w0 w l) : BC w l := h.2.cells
theorem env_one (w : World) (n d : Int) : Env w (w.alloc (.cells #[.int .i64 n, .int .i64 d] 23)) [⟨w.heap.size, n, d⟩] := ⟨al1 _ _, Has.new_ _ _ _, trivial⟩
theorem env_two (w : World) (an ad bn bd : Int) : Env w ((w.alloc (.cells #[.int .i64 an, .int .i64 ad] 23)).alloc (.cells #[.int .i64 bn, .int .i64 bd] 23)) [⟨w.heap.size + 1, bn, bd⟩, ⟨w.heap.size, an, ad⟩] := by
  have h := two_start w an ad bn bd
  exact ⟨h.2.2.1, h.2.1, h.1, trivial⟩
theorem env_three (w : World) (an ad bn bd cn cd : Int) : Env w (((w.alloc (.cells #[.int .i64 an, .int .i64 ad] 23)).alloc (.cells #[.int .i64 bn, .int .i64 bd] 23)).alloc (.cells #[.int .i64 cn, .int .i64 cd] 23)) [⟨w.heap.size + 1 + 1, cn, cd⟩, ⟨w.heap.size + 1, bn, bd⟩, ⟨w.heap.size, an, ad⟩] := by
  have h := has3 w 23 23 23 #[.int .i64 an, .int .i64 ad] #[.int .i64 bn, .int .i64 bd] #[.int .i64 cn, .int .i64 cd]
  exact ⟨al (al2 _ _ _) _, h.2.2.1, h.2.1, h.1, trivial⟩

/-- A floor or a ceiling, for whatever argument. -/
def floorR (n d : Int) : Int × Int := if vB n d then (floorQ n d, 0) else (0, 1)
def ceilR (n d : Int) : Int × Int := if vB n d then (ceilQ n d, 0) else (0, 1)
theorem floor_any (n d : Int) (w : World) (n1 : -9223372036854775808 ≤ n) (n2 : n ≤ 9223372036854775807) (d1 : -9223372036854775808 ≤ d) (d2 : d ≤ 9223372036854775807) {x e0 : Int} (hr : floorR n d = (x, e0)) :
    Calls Tryd.prog 14 #[.agg #[.int .i64 n, .int .i64 d]] w fun e w' => e = .returned (.tuple #[.int .i64 x, .int .i64 e0]) ∧ Below w.heap.size w w' := by
  unfold floorR at hr
  cases h : vB n d
  · rw [h] at hr; simp only [Bool.false_eq_true, if_false, Prod.mk.injEq] at hr; obtain ⟨rfl, rfl⟩ := hr
    exact floor_bad n d w n1 n2 d1 d2 h
  · rw [h] at hr; simp only [if_true, Prod.mk.injEq] at hr; obtain ⟨rfl, rfl⟩ := hr
    exact floor_ok n d w (vB_t.1 h)
theorem ceil_any (n d : Int) (w : World) (n1 : -9223372036854775808 ≤ n) (n2 : n ≤ 9223372036854775807) (d1 : -9223372036854775808 ≤ d) (d2 : d ≤ 9223372036854775807) {x e0 : Int} (hr : ceilR n d = (x, e0)) :
    Calls Tryd.prog 15 #[.agg #[.int .i64 n, .int .i64 d]] w fun e w' => e = .returned (.tuple #[.int .i64 x, .int .i64 e0]) ∧ Below w.heap.size w w' := by
  unfold ceilR at hr
  cases h : vB n d
  · rw [h] at hr; simp only [Bool.false_eq_true, if_false, Prod.mk.injEq] at hr; obtain ⟨rfl, rfl⟩ := hr
    exact ceil_bad n d w n1 n2 d1 d2 h
  · rw [h] at hr; simp only [if_true, Prod.mk.injEq] at hr; obtain ⟨rfl, rfl⟩ := hr
    exact ceil_ok n d w (vB_t.1 h)

theorem add_p (an ad bn bd : Int) (w : World) (h : All4 an ad bn bd) :
    Calls Tryd.prog 21 #[.agg #[.int .i64 an, .int .i64 ad], .agg #[.int .i64 bn, .int .i64 bd]] w fun e w' => e = .returned (.tuple #[.agg #[.int .i64 (addR an ad bn bd).1, .int .i64 (addR an ad bn bd).2.1], .int .i64 (addR an ad bn bd).2.2]) ∧ Below w.heap.size w w' :=
  add_any an ad bn bd w h (x := (addR an ad bn bd).1) (q := (addR an ad bn bd).2.1) (e0 := (addR an ad bn bd).2.2) (by simp only [Prod.eta])
theorem sub_p (an ad bn bd : Int) (w : World) (h : All4 an ad bn bd) :
    Calls Tryd.prog 22 #[.agg #[.int .i64 an, .int .i64 ad], .agg #[.int .i64 bn, .int .i64 bd]] w fun e w' => e = .returned (.tuple #[.agg #[.int .i64 (subR an ad bn bd).1, .int .i64 (subR an ad bn bd).2.1], .int .i64 (subR an ad bn bd).2.2]) ∧ Below w.heap.size w w' :=
  sub_any an ad bn bd w h (x := (subR an ad bn bd).1) (q := (subR an ad bn bd).2.1) (e0 := (subR an ad bn bd).2.2) (by simp only [Prod.eta])
theorem mul_p (an ad bn bd : Int) (w : World) (h : All4 an ad bn bd) :
    Calls Tryd.prog 23 #[.agg #[.int .i64 an, .int .i64 ad], .agg #[.int .i64 bn, .int .i64 bd]] w fun e w' => e = .returned (.tuple #[.agg #[.int .i64 (mulR an ad bn bd).1, .int .i64 (mulR an ad bn bd).2.1], .int .i64 (mulR an ad bn bd).2.2]) ∧ Below w.heap.size w w' :=
  mul_any an ad bn bd w h (x := (mulR an ad bn bd).1) (q := (mulR an ad bn bd).2.1) (e0 := (mulR an ad bn bd).2.2) (by simp only [Prod.eta])
theorem div_p (an ad bn bd : Int) (w : World) (h : All4 an ad bn bd) :
    Calls Tryd.prog 24 #[.agg #[.int .i64 an, .int .i64 ad], .agg #[.int .i64 bn, .int .i64 bd]] w fun e w' => e = .returned (.tuple #[.agg #[.int .i64 (divR an ad bn bd).1, .int .i64 (divR an ad bn bd).2.1], .int .i64 (divR an ad bn bd).2.2]) ∧ Below w.heap.size w w' :=
  div_any an ad bn bd w h (x := (divR an ad bn bd).1) (q := (divR an ad bn bd).2.1) (e0 := (divR an ad bn bd).2.2) (by simp only [Prod.eta])
theorem floor_p (n d : Int) (w : World) (n1 : -9223372036854775808 ≤ n) (n2 : n ≤ 9223372036854775807) (d1 : -9223372036854775808 ≤ d) (d2 : d ≤ 9223372036854775807) :
    Calls Tryd.prog 14 #[.agg #[.int .i64 n, .int .i64 d]] w fun e w' => e = .returned (.tuple #[.int .i64 (floorR n d).1, .int .i64 (floorR n d).2]) ∧ Below w.heap.size w w' :=
  floor_any n d w n1 n2 d1 d2 (x := (floorR n d).1) (e0 := (floorR n d).2) (by simp only [Prod.eta])
theorem ceil_p (n d : Int) (w : World) (n1 : -9223372036854775808 ≤ n) (n2 : n ≤ 9223372036854775807) (d1 : -9223372036854775808 ≤ d) (d2 : d ≤ 9223372036854775807) :
    Calls Tryd.prog 15 #[.agg #[.int .i64 n, .int .i64 d]] w fun e w' => e = .returned (.tuple #[.int .i64 (ceilR n d).1, .int .i64 (ceilR n d).2]) ∧ Below w.heap.size w w' :=
  ceil_any n d w n1 n2 d1 d2 (x := (ceilR n d).1) (e0 := (ceilR n d).2) (by simp only [Prod.eta])
theorem cmp_p (an ad bn bd : Int) (w : World) (h : All4 an ad bn bd) :
    Calls Tryd.prog 25 #[.agg #[.int .i64 an, .int .i64 ad], .agg #[.int .i64 bn, .int .i64 bd]] w fun e w' => e = .returned (.tuple #[.int .i64 (cmpR an ad bn bd).1, .int .i64 (cmpR an ad bn bd).2]) ∧ Below w.heap.size w w' :=
  cmp_any an ad bn bd w h (x := (cmpR an ad bn bd).1) (e0 := (cmpR an ad bn bd).2) (by simp only [Prod.eta])
theorem make_p (n d : Int) (w : World) (n1 : -9223372036854775808 ≤ n) (n2 : n ≤ 9223372036854775807) (d1 : -9223372036854775808 ≤ d) (d2 : d ≤ 9223372036854775807) :
    Calls Tryd.prog 12 #[.int .i64 n, .int .i64 d] w fun e w' => e = .returned (.tuple #[.agg #[.int .i64 (makeQ n d).1, .int .i64 (makeQ n d).2.1], .int .i64 (makeQ n d).2.2]) ∧ Below w.heap.size w w' :=
  make_any n d w n1 n2 d1 d2 (x := (makeQ n d).1) (q := (makeQ n d).2.1) (e0 := (makeQ n d).2.2) (by simp only [Prod.eta])

def Yes (w : World) (e : Ending) (w' : World) : Prop := e = .returned (.bool true) ∧ Below w.heap.size w w'
end Go.Proofs.YtbbbmlnggehcdaaDoor
