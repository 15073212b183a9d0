/- The search in depth for the parts: what lies in memory. -/
import Derived.Test.YteofbbakegcohaaTa
namespace Go.Proofs.Yteofbbakegcohaa
open Go.ChangeShapes Go.WideShapes Go.ChangeAt Go.RowKit
set_option linter.unusedVariables false
set_option linter.unusedSimpArgs false

/-- Lists of lists, and one list more that lies in no block of theirs. -/
structure Bes (B : Nat) (w : World) (v : Value) (ls : List (List Nat)) (u : Value) (xs : List Nat) (vs : List Value) : Prop where
  o : w.ownsRow B 23 1 v ls.length vs
  i : Inn B w v.ownBlock vs ls
  m : Own B w u xs
  d : ∀ (i : Nat) (y : Value) (b : Nat), vs[i]? = some y → y.ownBlock = some b → u.ownBlock ≠ some b
  r : ∀ b, u.ownBlock = some b → v.ownBlock ≠ some b
theorem Bes.on {B : Nat} {w w1 : World} {v : Value} {ls : List (List Nat)} {u : Value} {xs : List Nat} {vs : List Value} (h : Bes B w v ls u xs vs) (hb : Below w.heap.size w w1) : Bes B w1 v ls u xs vs :=
  ⟨own_on h.o hb, h.i.on hb, own_on h.m hb, h.d, h.r⟩
theorem oneCell_own {B : Nat} {w : World} {u : Value} {xs : List Nat} (h : Own B w u xs) : u.oneCell' = true := by
  rcases h.2 with ⟨rfl, -⟩ | ⟨g, c, cur, rfl, -⟩ <;> rfl

structure Tc where
  VB : Nat
  SB : Nat
  FP : Nat
  GB : Nat
  VF : Nat
  NB : Nat
  PB : Nat
  Fr : Nat
  B : Nat
  G : Nat
  D : Nat
def Tc.vals (c : Tc) : Array Value := #[.pointer (some ⟨c.VB, 0, none⟩), .pointer (some ⟨c.SB, 0, none⟩), .pointer (some ⟨c.FP, 0, none⟩), .pointer (some ⟨c.GB, 0, none⟩), .pointer (some ⟨c.VF, 0, none⟩), .pointer (some ⟨c.NB, 0, none⟩), .pointer (some ⟨c.PB, 0, none⟩)]
/-- Where things lie. -/
structure Tx (c : Tc) : Prop where
  b : c.VB < c.B ∧ c.SB < c.B ∧ c.FP < c.B ∧ c.GB < c.B ∧ c.VF < c.B ∧ c.NB < c.B ∧ c.PB < c.B ∧ c.Fr < c.B
  d : c.D ≤ c.VB ∧ c.D ≤ c.SB ∧ c.D ≤ c.Fr ∧ c.D ≤ c.PB ∧ c.D ≤ c.B
  v : c.VB ≠ c.SB ∧ c.VB ≠ c.FP ∧ c.VB ≠ c.GB ∧ c.VB ≠ c.VF ∧ c.VB ≠ c.NB ∧ c.VB ≠ c.PB ∧ c.VB ≠ c.Fr
  s : c.SB ≠ c.FP ∧ c.SB ≠ c.GB ∧ c.SB ≠ c.VF ∧ c.SB ≠ c.NB ∧ c.SB ≠ c.PB ∧ c.SB ≠ c.Fr
  p : c.PB ≠ c.FP ∧ c.PB ≠ c.GB ∧ c.PB ≠ c.VF ∧ c.PB ≠ c.NB ∧ c.PB ≠ c.Fr
  f : c.Fr ≠ c.FP ∧ c.Fr ≠ c.GB ∧ c.Fr ≠ c.VF ∧ c.Fr ≠ c.NB
/-- The state in memory. -/
structure Te (c : Tc) (n : Nat) (w0 w : World) (s : TS) (sv pv : Value) (vs : List Value) : Prop where
  v : Has w c.VB 3 #[.int .i64 (s.vis : Int)]
  r : Row w c.Fr n (fun j => (s.num j : Int))
  hs : Has w c.SB 23 #[sv]
  hp : Has w c.PB 48 #[pv]
  b : Bes c.B w pv s.prt sv s.stk vs
  fp : Has w c.FP 23 #[.slice (some ⟨c.Fr, 0, none⟩) n n]
  gb : Has w c.GB 66 #[.slice (some ⟨c.G, 0, none⟩) n n]
  vf : Has w c.VF 93 #[.func (.func 67) #[] c.vals]
  nb : Has w c.NB 3 #[.int .i64 ((n + 1 : Nat) : Int)]
  k : Below c.D w0 w
def Tw (c : Tc) (n : Nat) (w0 w : World) (s : TS) : Prop := ∃ sv pv vs, Te c n w0 w s sv pv vs
theorem Te.on {c : Tc} {n : Nat} {w0 w w1 : World} {s : TS} {sv pv : Value} {vs : List Value} (h : Te c n w0 w s sv pv vs) (hD : c.D ≤ w.heap.size) (hb : Below w.heap.size w w1) : Te c n w0 w1 s sv pv vs :=
  ⟨Has.on h.v hb, Has.on h.r hb, Has.on h.hs hb, Has.on h.hp hb, h.b.on hb, Has.on h.fp hb, Has.on h.gb hb, Has.on h.vf hb, Has.on h.nb hb, h.k.trans (hb.mono hD)⟩
theorem Bes.at_ {B g : Nat} {w w1 : World} {v : Value} {ls : List (List Nat)} {u : Value} {xs : List Nat} {vs : List Value} (h : Bes B w v ls u xs vs) (hb : At g w w1) (hg : g < B) : Bes B w1 v ls u xs vs := by
  refine ⟨own_at h.o hb (fun e => by have := (h.o.lt _ e).1; omega), ⟨h.i.len, fun k y ys a b => ?_, h.i.dis, h.i.out⟩, own_at h.m hb (fun e => by have := (World.ownsRow.lt h.m _ e).1; omega), h.d, h.r⟩
  have := h.i.own k y ys a b
  exact own_at this hb (fun e => by have := (World.ownsRow.lt this _ e).1; omega)
theorem Te.setv {c : Tc} {n : Nat} {w0 w : World} {s : TS} {sv pv : Value} {vs : List Value} (h : Te c n w0 w s sv pv vs) (X : Tx c) (m : Nat) {z : Int} (hz : z = (m : Int)) : Te c n w0 (w.setCell ⟨c.VB, 0, none⟩ (.int .i64 z)) ⟨m, s.num, s.stk, s.prt⟩ sv pv vs := by
  subst hz
  have A : At c.VB w (w.setCell ⟨c.VB, 0, none⟩ (.int .i64 (m : Int))) := (At.refl _ _).put _ _
  have x := X.v
  exact ⟨Has.put_ h.v 0 _, Has.at_ h.r A (Ne.symm x.2.2.2.2.2.2), Has.at_ h.hs A (Ne.symm x.1), Has.at_ h.hp A (Ne.symm x.2.2.2.2.2.1), h.b.at_ A X.b.1, Has.at_ h.fp A (Ne.symm x.2.1), Has.at_ h.gb A (Ne.symm x.2.2.1), Has.at_ h.vf A (Ne.symm x.2.2.2.1), Has.at_ h.nb A (Ne.symm x.2.2.2.2.1), h.k.trans (A.below X.d.1)⟩
theorem Te.setn {c : Tc} {n : Nat} {w0 w : World} {s : TS} {sv pv : Value} {vs : List Value} (h : Te c n w0 w s sv pv vs) (X : Tx c) (i m : Nat) {z : Int} (hz : z = (m : Int)) (f : Nat → Nat) (hf : ∀ j, f j = upd s.num i m j) : Te c n w0 (w.setCell ⟨c.Fr, i, none⟩ (.int .i64 z)) ⟨s.vis, f, s.stk, s.prt⟩ sv pv vs := by
  subst hz
  have A : At c.Fr w (w.setCell ⟨c.Fr, i, none⟩ (.int .i64 (m : Int))) := (At.refl _ _).put _ _
  have x := X.f
  refine ⟨Has.at_ h.v A X.v.2.2.2.2.2.2, (h.r.put i (m : Int)).cong (fun j _ => ?_), Has.at_ h.hs A X.s.2.2.2.2.2, Has.at_ h.hp A X.p.2.2.2.2, h.b.at_ A X.b.2.2.2.2.2.2.2, Has.at_ h.fp A (Ne.symm x.1), Has.at_ h.gb A (Ne.symm x.2.1), Has.at_ h.vf A (Ne.symm x.2.2.1), Has.at_ h.nb A (Ne.symm x.2.2.2), h.k.trans (A.below X.d.2.2.1)⟩
  show upd (fun j => (s.num j : Int)) i (m : Int) j = ((f j : Nat) : Int)
  rw [hf]; unfold upd; simp only; split <;> rfl
theorem Bes.add {B : Nat} {w w1 : World} {v : Value} {ls : List (List Nat)} {u u' : Value} {xs ys : List Nat} {vs : List Value} (h : Bes B w v ls u xs vs) (o1 : Own B w1 u' ys) (hg : w.grownBy w1 u.ownBlock) (hv : u'.ownBlock = u.ownBlock ∨ u'.ownBlock = some w.heap.size) : Bes B w1 v ls u' ys vs := by
  have kept : ∀ (y : Value) (zs : List Nat), Own B w y zs → (∀ b, y.ownBlock = some b → u.ownBlock ≠ some b) → Own B w1 y zs := fun y zs hy k => by
    refine World.ownsRow.kept hy hg ?_
    cases e : y.ownBlock with
    | none => exact .inl rfl
    | some b => exact .inr (Ne.symm (k b e))
  refine ⟨?_, ⟨h.i.len, fun i y zs a b => kept y zs (h.i.own i y zs a b) (fun c e => h.d i y c a e), h.i.dis, h.i.out⟩, o1, fun i y b a e => ?_, fun b e => ?_⟩
  · refine World.ownsRow.kept h.o hg ?_
    cases e : v.ownBlock with
    | none => exact .inl rfl
    | some b => exact .inr fun k => h.r b k.symm e
  · rcases hv with k | k
    · rw [k]; exact h.d i y b a e
    · rw [k]
      obtain ⟨zs, -, ho⟩ := h.i.get a
      have := (World.ownsRow.lt ho _ e).2
      simp; omega
  · rcases hv with k | k
    · rw [k] at e; exact h.r b e
    · rw [k] at e
      simp only [Option.some.injEq] at e
      intro e2
      have := (h.o.lt _ e2).2
      omega
/-- The stack has grown, and its variable is set. -/
theorem Te.push {c : Tc} {n : Nat} {w0 w w1 : World} {s : TS} {sv sv' pv : Value} {vs : List Value} {x : Nat} (h : Te c n w0 w s sv pv vs) (X : Tx c) (hB : c.B ≤ w.heap.size)
    (o1 : w1.ownsRow c.B 3 1 sv' (s.stk.length + 1) (ints s.stk ++ [.int .i64 (x : Int)])) (hg : w.grownBy w1 sv.ownBlock) (hv : sv'.ownBlock = sv.ownBlock ∨ sv'.ownBlock = some w.heap.size) : Te c n w0 (w1.setCell ⟨c.SB, 0, none⟩ sv') ⟨s.vis, s.num, s.stk ++ [x], s.prt⟩ sv' pv vs := by
  have O : Own c.B w1 sv' (s.stk ++ [x]) := by
    unfold Own
    rw [ints_app, List.length_append]
    exact o1
  have far : ∀ q, sv.ownBlock = some q → c.B ≤ q := fun q e => (World.ownsRow.lt h.b.m _ e).1
  have ne : ∀ g, g < c.B → some g ≠ sv.ownBlock := fun g hg e => by have := far g e.symm; omega
  have A : At c.SB w1 (w1.setCell ⟨c.SB, 0, none⟩ sv') := (At.refl _ _).put _ _
  have b := X.b
  have x := X.s
  exact ⟨Has.at_ (Has.grown_ h.v hg (ne _ b.1)) A X.v.1, Has.at_ (Has.grown_ h.r hg (ne _ b.2.2.2.2.2.2.2)) A (Ne.symm x.2.2.2.2.2), Has.put_ (Has.grown_ h.hs hg (ne _ b.2.1)) 0 sv', Has.at_ (Has.grown_ h.hp hg (ne _ b.2.2.2.2.2.2.1)) A (Ne.symm x.2.2.2.2.1), (h.b.add O hg hv).at_ A b.2.1, Has.at_ (Has.grown_ h.fp hg (ne _ b.2.2.1)) A (Ne.symm x.1), Has.at_ (Has.grown_ h.gb hg (ne _ b.2.2.2.1)) A (Ne.symm x.2.1), Has.at_ (Has.grown_ h.vf hg (ne _ b.2.2.2.2.1)) A (Ne.symm x.2.2.1), Has.at_ (Has.grown_ h.nb hg (ne _ b.2.2.2.2.2.1)) A (Ne.symm x.2.2.2.1), (h.k.grown hg (by have := X.d.2.2.2.2; omega) (fun q e => by have := far q e; have := X.d.2.2.2.2; omega)).trans (A.below X.d.2.1)⟩
theorem Own.cut {B : Nat} {w : World} {g m k c : Nat} {xs : List Nat} (h : Own B w (.slice (some ⟨g, 0, none⟩) m c) xs) (hl : xs.length = m) (hk : k ≤ m) : Own B w (.slice (some ⟨g, 0, none⟩) k c) (xs.take k) := by
  subst hl
  obtain ⟨hlen, ⟨hv, -⟩ | ⟨g', cap, cur, hv, hB, hg, hn, hcap, hsz, ht⟩⟩ := h
  · cases hv
  · simp only [Value.slice.injEq, Option.some.injEq, Addr.mk.injEq, and_true, true_and] at hv
    obtain ⟨rfl, rfl⟩ := hv
    refine ⟨by simp [ints], .inr ⟨g, c, cur, by simp [Nat.min_eq_left hk], hB, hg, by rw [List.length_take]; omega, hcap, hsz, ?_⟩⟩
    rw [List.length_take, Nat.min_eq_left hk]
    have e : ints (xs.take k) = (ints xs).take k := by unfold ints; rw [List.map_take]
    rw [e, ← ht, List.take_take, Nat.mul_one, Nat.mul_one, Nat.min_eq_left hk]
/-- The stack is cut. -/
theorem Te.cut {c : Tc} {n : Nat} {w0 w : World} {s : TS} {pv : Value} {vs : List Value} {g len cap k : Nat} (h : Te c n w0 w s (.slice (some ⟨g, 0, none⟩) len cap) pv vs) (X : Tx c) (hl : s.stk.length = len) (hk : k ≤ len) : Te c n w0 (w.setCell ⟨c.SB, 0, none⟩ (.slice (some ⟨g, 0, none⟩) k cap)) ⟨s.vis, s.num, s.stk.take k, s.prt⟩ (.slice (some ⟨g, 0, none⟩) k cap) pv vs := by
  have A : At c.SB w (w.setCell ⟨c.SB, 0, none⟩ (.slice (some ⟨g, 0, none⟩) k cap)) := (At.refl _ _).put _ _
  have b := X.b
  have x := X.s
  have B2 : Bes c.B w pv s.prt (.slice (some ⟨g, 0, none⟩) k cap) (s.stk.take k) vs := ⟨h.b.o, h.b.i, Own.cut h.b.m hl hk, h.b.d, h.b.r⟩
  exact ⟨Has.at_ h.v A X.v.1, Has.at_ h.r A (Ne.symm x.2.2.2.2.2), Has.put_ h.hs 0 _, Has.at_ h.hp A (Ne.symm x.2.2.2.2.1), B2.at_ A b.2.1, Has.at_ h.fp A (Ne.symm x.1), Has.at_ h.gb A (Ne.symm x.2.1), Has.at_ h.vf A (Ne.symm x.2.2.1), Has.at_ h.nb A (Ne.symm x.2.2.2.1), h.k.trans (A.below X.d.2.1)⟩
/-- A block that none of the lists lies in. -/
def Off (q : Nat) (sv pv : Value) (vs : List Value) : Prop := sv.ownBlock ≠ some q ∧ pv.ownBlock ≠ some q ∧ ∀ (i : Nat) (y : Value), vs[i]? = some y → y.ownBlock ≠ some q
theorem Bes.off {B : Nat} {w : World} {v : Value} {ls : List (List Nat)} {u : Value} {xs : List Nat} {vs : List Value} (h : Bes B w v ls u xs vs) {q : Nat} (hq : w.heap.size ≤ q) : Off q u v vs := by
  refine ⟨fun e => ?_, fun e => ?_, fun i y hy e => ?_⟩
  · have := (World.ownsRow.lt h.m _ e).2; omega
  · have := (h.o.lt _ e).2; omega
  · obtain ⟨zs, -, ho⟩ := h.i.get hy
    have := (World.ownsRow.lt ho _ e).2; omega
theorem Te.far {c : Tc} {n : Nat} {w0 w w1 : World} {s : TS} {sv pv : Value} {vs : List Value} {q : Nat} (h : Te c n w0 w s sv pv vs) (X : Tx c) (hB : c.B ≤ w.heap.size) (hq : c.B ≤ q) (ho : Off q sv pv vs) (hg : w.grownBy w1 (some q)) : Te c n w0 w1 s sv pv vs := by
  have ne : ∀ g, g < c.B → some g ≠ some q := fun g hg e => by cases e; omega
  have b := X.b
  have kept : ∀ {e : TypeId} {sz m : Nat} {y : Value} {ys : List Value}, w.ownsRow c.B e sz y m ys → y.ownBlock ≠ some q → w1.ownsRow c.B e sz y m ys := fun hy k => by
    refine World.ownsRow.kept hy hg (.inr k)
  exact ⟨Has.grown_ h.v hg (ne _ b.1), Has.grown_ h.r hg (ne _ b.2.2.2.2.2.2.2), Has.grown_ h.hs hg (ne _ b.2.1), Has.grown_ h.hp hg (ne _ b.2.2.2.2.2.2.1),
    ⟨kept h.b.o ho.2.1, ⟨h.b.i.len, fun i y zs a e => kept (h.b.i.own i y zs a e) (ho.2.2 i y a), h.b.i.dis, h.b.i.out⟩, kept h.b.m ho.1, h.b.d, h.b.r⟩,
    Has.grown_ h.fp hg (ne _ b.2.2.1), Has.grown_ h.gb hg (ne _ b.2.2.2.1), Has.grown_ h.vf hg (ne _ b.2.2.2.2.1), Has.grown_ h.nb hg (ne _ b.2.2.2.2.2.1), h.k.grown hg (by have := X.d.2.2.2.2; omega) (fun j e => by cases e; have := X.d.2.2.2.2; omega)⟩
theorem Inn.push {B : Nat} {w w1 : World} {v v' u : Value} {vs : List Value} {ls : List (List Nat)} {xs : List Nat} (o : w.ownsRow B 23 1 v ls.length vs) (I : Inn B w v.ownBlock vs ls)
    (hu : Own B w u xs) (hd : ∀ (i : Nat) (y : Value) (b : Nat), vs[i]? = some y → y.ownBlock = some b → u.ownBlock ≠ some b) (hr : ∀ b, u.ownBlock = some b → v.ownBlock ≠ some b)
    (o1 : w1.ownsRow B 23 1 v' (ls.length + 1) (vs ++ [u])) (hg : w.grownBy w1 v.ownBlock) (hv : v'.ownBlock = v.ownBlock ∨ v'.ownBlock = some w.heap.size) : Inn B w1 v'.ownBlock (vs ++ [u]) (ls ++ [xs]) := by
  have kept : ∀ (y : Value) (ys : List Nat), Own B w y ys → (∀ b, y.ownBlock = some b → v.ownBlock ≠ some b) → Own B w1 y ys := fun y ys h k => by
    refine World.ownsRow.kept h hg ?_
    cases e : y.ownBlock with
    | none => exact .inl rfl
    | some b => exact .inr (Ne.symm (k b e))
  have far : ∀ (y : Value) (ys : List Nat) (b : Nat), Own B w y ys → y.ownBlock = some b → v.ownBlock ≠ some b → v'.ownBlock ≠ some b := fun y ys b h e k => by
    rcases hv with h1 | h1
    · rw [h1]; exact k
    · rw [h1]
      have := (World.ownsRow.lt h _ e).2
      simp; omega
  have at_ : ∀ (i : Nat) (y : Value), (vs ++ [u])[i]? = some y → (vs[i]? = some y) ∨ (i = ls.length ∧ y = u) := fun i y h => by
    rcases Nat.lt_or_ge i vs.length with k | k
    · rw [List.getElem?_append_left k] at h; exact .inl h
    · rw [List.getElem?_append_right k] at h
      right
      have : i - vs.length = 0 := by
        have := (List.getElem?_eq_some_iff.1 h).1
        simp at this; omega
      rw [this] at h
      simp at h
      exact ⟨by have := I.len; omega, h.symm⟩
  refine ⟨?_, ?_, ?_, ?_⟩
  · simp [I.len]
  · intro i y ys h1 h2
    rcases at_ i y h1 with k | ⟨rfl, rfl⟩
    · have hi : i < ls.length := by rw [← I.len]; exact (List.getElem?_eq_some_iff.1 k).1
      rw [List.getElem?_append_left hi] at h2
      exact kept y ys (I.own i y ys k h2) (fun b e => I.out i y b k e)
    · rw [List.getElem?_append_right (Nat.le_refl _), Nat.sub_self] at h2
      simp at h2
      subst h2
      exact kept y xs hu hr
  · intro i j y y' b hij h1 h2 e
    rcases at_ i y h1 with k1 | ⟨e1, rfl⟩
    · rcases at_ j y' h2 with k2 | ⟨e2, rfl⟩
      · exact I.dis i j y y' b hij k1 k2 e
      · exact hd i y b k1 e
    · rcases at_ j y' h2 with k2 | ⟨e2, rfl⟩
      · intro e2; exact hd j y' b k2 e2 e
      · omega
  · intro i y b h1 e
    rcases at_ i y h1 with k | ⟨_, rfl⟩
    · obtain ⟨ys, hy, ho⟩ := I.get k
      exact far y ys b ho e (I.out i y b k e)
    · exact far y xs b hu e (hr b e)

/-- A part is put to the others, and their variable is set. -/
theorem Te.part {c : Tc} {n : Nat} {w0 w w1 : World} {s : TS} {sv pv pv' p : Value} {vs : List Value} {ys : List Nat} (h : Te c n w0 w s sv pv vs) (X : Tx c) (hB : c.B ≤ w.heap.size) (hp : Own c.B w p ys) (ho : ∀ b, p.ownBlock = some b → Off b sv pv vs)
    (o1 : w1.ownsRow c.B 23 1 pv' (s.prt.length + 1) (vs ++ [p])) (hg : w.grownBy w1 pv.ownBlock) (hv : pv'.ownBlock = pv.ownBlock ∨ pv'.ownBlock = some w.heap.size) : Te c n w0 (w1.setCell ⟨c.PB, 0, none⟩ pv') ⟨s.vis, s.num, s.stk, s.prt ++ [ys]⟩ sv pv' (vs ++ [p]) := by
  have far : ∀ q, pv.ownBlock = some q → c.B ≤ q := fun q e => (h.b.o.lt _ e).1
  have ne : ∀ g, g < c.B → some g ≠ pv.ownBlock := fun g hg e => by have := far g e.symm; omega
  have A : At c.PB w1 (w1.setCell ⟨c.PB, 0, none⟩ pv') := (At.refl _ _).put _ _
  have b := X.b
  have x := X.p
  have I := Inn.push h.b.o h.b.i hp (fun i y q a e k => (ho q k).2.2 i y a e) (fun q e k => (ho q e).2.1 k) o1 hg hv
  have at_ : ∀ (i : Nat) (y : Value), (vs ++ [p])[i]? = some y → vs[i]? = some y ∨ y = p := fun i y hy => by
    rcases Nat.lt_or_ge i vs.length with k | k
    · rw [List.getElem?_append_left k] at hy; exact .inl hy
    · rw [List.getElem?_append_right k] at hy
      have := List.mem_of_getElem? hy
      exact .inr (List.mem_singleton.1 this)
  have M : Own c.B w1 sv s.stk := World.ownsRow.kept h.b.m hg (by
    cases e : sv.ownBlock with
    | none => exact .inl rfl
    | some q => exact .inr fun k => h.b.r q e k.symm)
  have B2 : Bes c.B w1 pv' (s.prt ++ [ys]) sv s.stk (vs ++ [p]) := by
    refine ⟨by rw [List.length_append]; exact o1, I, M, fun i y q a e => ?_, fun q e => ?_⟩
    · rcases at_ i y a with k | rfl
      · exact h.b.d i y q k e
      · exact fun k => (ho q e).1 k
    · rcases hv with k | k
      · rw [k]; exact h.b.r q e
      · rw [k]
        have := (World.ownsRow.lt h.b.m _ e).2
        simp; omega
  exact ⟨Has.at_ (Has.grown_ h.v hg (ne _ b.1)) A X.v.2.2.2.2.2.1, Has.at_ (Has.grown_ h.r hg (ne _ b.2.2.2.2.2.2.2)) A (Ne.symm x.2.2.2.2), Has.at_ (Has.grown_ h.hs hg (ne _ b.2.1)) A X.s.2.2.2.2.1, Has.put_ (Has.grown_ h.hp hg (ne _ b.2.2.2.2.2.2.1)) 0 pv', B2.at_ A b.2.2.2.2.2.2.1, Has.at_ (Has.grown_ h.fp hg (ne _ b.2.2.1)) A (Ne.symm x.1), Has.at_ (Has.grown_ h.gb hg (ne _ b.2.2.2.1)) A (Ne.symm x.2.1), Has.at_ (Has.grown_ h.vf hg (ne _ b.2.2.2.2.1)) A (Ne.symm x.2.2.1), Has.at_ (Has.grown_ h.nb hg (ne _ b.2.2.2.2.2.1)) A (Ne.symm x.2.2.2.1), (h.k.grown hg (by have := X.d.2.2.2.2; omega) (fun q e => by have := far q e; have := X.d.2.2.2.2; omega)).trans (A.below X.d.2.2.2.1)⟩
theorem clone_off (b off n c : Nat) (xs : List Nat) (w : World) (hl : xs.length = n) (hs : n ≤ 100000) (hc : ∀ j (h : j < xs.length), w.cell? ⟨b, off + j, none⟩ = some (.int .i64 (xs[j] : Nat))) :
    Calls Try.prog 26 #[.slice (some ⟨b, off, none⟩) n c] w fun e w' => ∃ v', e = .returned v' ∧ Own w.heap.size w' v' xs ∧ Below w.heap.size w w' := by
  subst hl
  refine (Try.slices_Clone_int b off xs.length c (toZ xs) w (by rw [toZ_len]; exact Nat.le_refl _) (by omega) (fun j hj => ?_)).mono ?_
  · rw [toZ_len] at hj
    rw [hc j hj, List.getD_eq_getElem?_getD]
    unfold toZ
    rw [List.getElem?_map, List.getElem?_eq_getElem hj]
    rfl
  · rintro e w' ⟨v', rfl, h1, -, h2⟩
    refine ⟨_, rfl, ?_, h2⟩
    rw [List.take_of_length_le (by rw [toZ_len]; exact Nat.le_refl _)] at h1
    unfold Own
    have e : (toZ xs).map (Value.int .i64) = ints xs := by unfold toZ ints; rw [List.map_map]; rfl
    rw [e] at h1
    exact h1
end Go.Proofs.Yteofbbakegcohaa
