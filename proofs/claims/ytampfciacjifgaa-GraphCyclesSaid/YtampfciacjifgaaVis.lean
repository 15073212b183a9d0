/- The search in depth of Bridges: what it reckons, and its closure. -/
import Derived.Test.YtampfciacjifgaaCyc
namespace Go.Proofs.Ytampfciacjifgaa
open Go.ChangeShapes Go.WideShapes Go.ChangeAt Go.RowKit
set_option linter.unusedVariables false
set_option linter.unusedSimpArgs false

structure St where
  vis : Nat
  fst : Nat → Nat
  brs : List Nat
/-- One edge of a node whose first visit was the one numbered so. -/
def stp (vs : Nat → Nat → St → St × Nat) (l : List (Nat × Nat)) (node bye : Nat) (acc : St × Nat) (i : Nat) : St × Nat :=
  if i = bye then acc
  else if 0 < acc.1.fst (nx l i node) then (acc.1, min acc.2 (acc.1.fst (nx l i node)))
  else
    let r := vs (nx l i node) i acc.1
    (if r.1.fst node < r.2 then ⟨r.1.vis, r.1.fst, r.1.brs ++ [i]⟩ else r.1, min acc.2 r.2)
/-- A visit; bye is the edge by which the node was come to, or a number beyond all. -/
def vst (l : List (Nat × Nat)) (A : Nat → List Nat) : Nat → Nat → Nat → St → St × Nat
  | 0, _, _, s => (s, 0)
  | k + 1, node, bye, s => (A node).foldl (stp (vst l A k) l node bye) (⟨s.vis + 1, upd s.fst node (s.vis + 1), s.brs⟩, s.vis + 1)
/-- How many of the first n nodes have not been visited. -/
def zc (g : Nat → Nat) : Nat → Nat
  | 0 => 0
  | n + 1 => zc g n + if g n = 0 then 1 else 0
theorem zc_far (g : Nat → Nat) (u x : Nat) : ∀ n, n ≤ u → zc (upd g u x) n = zc g n
  | 0, _ => rfl
  | n + 1, h => by rw [zc, zc, zc_far g u x n (by omega), upd_other (by omega)]
theorem zc_upd (g : Nat → Nat) (u x : Nat) (h1 : g u = 0) (h2 : x ≠ 0) : ∀ n, u < n → zc (upd g u x) n + 1 = zc g n
  | n + 1, h => by
    rw [zc, zc]
    by_cases e : u = n
    · subst e
      rw [zc_far g u x u (Nat.le_refl _), upd_same, if_neg h2, if_pos h1]
    · rw [upd_other (Ne.symm e), ← zc_upd g u x h1 h2 n (by omega)]
      omega
theorem zc_le (g : Nat → Nat) : ∀ n, zc g n ≤ n
  | 0 => Nat.le_refl _
  | n + 1 => by have := zc_le g n; rw [zc]; split <;> omega
theorem zc_mono {g h : Nat → Nat} (k : ∀ v, g v ≠ 0 → h v ≠ 0) : ∀ n, zc h n ≤ zc g n
  | 0 => Nat.le_refl _
  | n + 1 => by
    have := zc_mono k n
    have e := k n
    rw [zc, zc]
    split <;> split <;> omega
theorem zc_pos {g : Nat → Nat} {u : Nat} (h : g u = 0) : ∀ n, u < n → 0 < zc g n
  | n + 1, hn => by
    rw [zc]
    by_cases e : u = n
    · subst e; rw [if_pos h]; omega
    · have := zc_pos h n (by omega)
      omega
/-- What a visit does to the state. -/
structure Gd (n : Nat) (s t : St) : Prop where
  m : ∀ v, s.fst v ≠ 0 → t.fst v = s.fst v
  z : t.vis + zc t.fst n ≤ n
  b : t.brs.length + s.vis ≤ t.vis + s.brs.length
theorem Gd.trans {n : Nat} {a b c : St} (h : Gd n a b) (k : Gd n b c) : Gd n a c := ⟨fun v hv => by rw [k.m v (by rw [h.m v hv]; exact hv), h.m v hv], k.z, by have := h.b; have := k.b; omega⟩

/-- Where the variables of Bridges lie. -/
structure Cf where
  Vb : Nat
  Fb : Nat
  Lb : Nat
  Bb : Nat
  Eo : Nat
  Eb : Nat
  Vs : Nat
  B : Nat
def Cf.vals (c : Cf) : Array Value := #[.pointer (some ⟨c.Vb, 0, none⟩), .pointer (some ⟨c.Lb, 0, none⟩), .pointer (some ⟨c.Eo, 0, none⟩), .pointer (some ⟨c.Eb, 0, none⟩), .pointer (some ⟨c.Vs, 0, none⟩), .pointer (some ⟨c.Bb, 0, none⟩)]
/-- Old blocks but three are as they were. -/
structure Bx (c : Cf) (w w' : World) : Prop where
  os : w'.os = w.os
  tape : w'.tape = w.tape
  output : w'.output = w.output
  size : w.heap.size ≤ w'.heap.size
  block : ∀ k, k < c.B → k ≠ c.Vb → k ≠ c.Fb → k ≠ c.Bb → w'.heap[k]? = w.heap[k]?
theorem Bx.refl (c : Cf) (w : World) : Bx c w w := ⟨rfl, rfl, rfl, Nat.le_refl _, fun _ _ _ _ _ => rfl⟩
theorem Bx.then_ {c : Cf} {w w1 w2 : World} (h : Bx c w w1) (k : Below c.B w1 w2) : Bx c w w2 := ⟨k.os.trans h.os, k.tape.trans h.tape, k.output.trans h.output, Nat.le_trans h.size k.size, fun j hj a b d => (k.block j hj).trans (h.block j hj a b d)⟩
theorem Bx.at_ {c : Cf} {g : Nat} {w w1 w2 : World} (h : Bx c w w1) (k : At g w1 w2) (hg : g = c.Vb ∨ g = c.Fb ∨ g = c.Bb) : Bx c w w2 := ⟨k.os.trans h.os, k.tape.trans h.tape, k.output.trans h.output, by rw [k.size]; exact h.size, fun j hj a b d => (k.block j (by rcases hg with rfl | rfl | rfl <;> assumption)).trans (h.block j hj a b d)⟩
/-- The variables as they stand. -/
structure Bw (c : Cf) (n : Nat) (w0 w : World) (s : St) : Prop where
  v : Has w c.Vb 3 #[.int .i64 (s.vis : Int)]
  r : Row w c.Fb n (fun j => (s.fst j : Int))
  b : ∃ vb, Has w c.Bb 29 #[vb] ∧ Own c.B w vb s.brs
  k : Bx c w0 w
theorem Bw.on {c : Cf} {n : Nat} {w0 w w1 : World} {s : St} (h : Bw c n w0 w s) (hb : Below w.heap.size w w1) (hB : c.B ≤ w.heap.size) : Bw c n w0 w1 s := by
  obtain ⟨vb, h1, h2⟩ := h.b
  exact ⟨Has.on h.v hb, Has.on h.r hb, ⟨vb, Has.on h1 hb, own_on h2 hb⟩, h.k.then_ (hb.mono hB)⟩
end Go.Proofs.Ytampfciacjifgaa
