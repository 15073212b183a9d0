/- Path of the program. -/
import Derived.Test.YthdafpbmmfelpaaGreatDoorMv
import Derived.Test.YthdafpbmmfelpaaGreatDoorPl
import Derived.Deep.CutBlock
namespace Go.Proofs.YthdafpbmmfelpaaGreatDoor
open Go.ChangeShapes Go.WideShapes Go.ChangeAt Go.RowKit
set_option linter.unusedVariables false
set_option linter.unusedSimpArgs false

def way (c : Int) (j : Nat) : Int := (((dirS c).getD j 0).toNat : Int)
def pt (b : Bar) : Nat → Pt
  | 0 => ⟨0, 0, 0⟩
  | k + 1 => mv (pt b k) (way b.code k) (legF b k)
def pts (b : Bar) : List Pt := (List.range (nl b.code + 1)).map (pt b)
theorem pts_len (b : Bar) : (pts b).length = nl b.code + 1 := by simp [pts]
theorem pt_bd {b : Bar} (h : barB b = true) : ∀ k, k ≤ nl b.code → (pt b k).bd (k * 262144)
  | 0, _ => by unfold pt Pt.bd; dsimp only; omega
  | k + 1, hk => by
    have h1 := pt_bd h k (by omega)
    have h2 := leg_bd h (j := k) (by omega)
    have h3 := mv_bd (c := way b.code k) h1 (n := legF b k) (by omega)
    unfold pt
    unfold Pt.bd at h3 ⊢
    omega
theorem pt_big {b : Bar} (h : barB b = true) {k : Nat} (hk : k ≤ nl b.code) : (pt b k).bd 1572864 := by
  have h1 := pt_bd h k hk
  have h2 := nl_le (barB_and h).1
  unfold Pt.bd at h1 ⊢
  omega
theorem str_at (l : List UInt8) (k : Nat) (h : k < l.length) (w : World) : Sem.run Tryz.prog (Instr.index 9 (.string ⟨l.toArray⟩) (.int .i64 k)) w = .ok (.int .u8 (l.getD k 0).toNat) w := by
  have e : ((⟨l.toArray⟩ : ByteArray).size : Nat) = l.length := by simp [ByteArray.size]
  have e2 : l.getD k 0 = l[k] := by rw [List.getD_eq_getElem?_getD, List.getElem?_eq_getElem h]; rfl
  simp [Instr.index, go_sem, Tryz.underlying9, h, e, e2]
  rfl
theorem info77 : (Tryz.prog.info? 189).map (fun i => (i.zero, i.size, i.bytes)) = some (some (.agg #[.int .i64 0, .int .i64 0, .int .i64 0]), 3, 24) := by kernel_rfl
theorem own_snoc {α : Type} {f : α → List Value} {t : TypeId} {s B : Nat} {w : World} {v : Value} {O : List α} {y : α} (h : w.ownsRow B t s v (O.length + 1) (O.flatMap f ++ f y)) : Own f t s B w v (O ++ [y]) := by
  unfold Own
  rw [List.length_append, List.flatMap_append]
  simpa using h
theorem own_lit {w : World} {B g n s : Nat} {t : TypeId} {cs : Array Value} (h : Has w g t cs) (hs : cs.size = n * s) (hB : B ≤ g) (hn : n ≤ maxLen) : w.ownsRow B t s (.slice (some ⟨g, 0, none⟩) n n) n cs.toList := by
  refine ⟨by simpa using hs, .inr ⟨g, n, cs, rfl, hB, h, Nat.le_refl _, hn, hs, ?_⟩⟩
  rw [List.take_of_length_le (by simp [hs])]
theorem env_row {w w1 w2 : World} {g : Nat} {t : TypeId} {cs : Array Value} {row : Option Nat} (E : Env w w1 [⟨g, t, cs⟩]) (hg : w1.grownBy w2 row) (hr : ∀ k, row = some k → w.heap.size + 1 ≤ k) (hgw : g = w.heap.size := by rfl) : Env w w2 [⟨g, t, cs⟩] := by
  obtain ⟨h1, h2, h3, h4, h5⟩ := E
  refine ⟨h1.grown hg h1.size (fun k hk => by have := hr k hk; omega), h2, Has.grown_ h3 hg (fun e => by have := hr g e.symm; dsimp only at *; omega), h4, h5⟩
theorem Env.three {w0 w : World} {l : List Fb} {u0 u1 u2 : Value} (h : Env w0 w l) (k : Nat) (hb : Nat.blt k l.length = true) :
    Env w0 (((w.setCell ⟨numB k l, 0, none⟩ u0).setCell ⟨numB k l, 1, none⟩ u1).setCell ⟨numB k l, 2, none⟩ u2) (setB 2 u2 k (setB 1 u1 k (setB 0 u0 k l))) := by
  have e : ∀ (k : Nat) (l : List Fb) (i : Nat) (u : Value), numB k (setB i u k l) = numB k l := by
    intro k l i u
    induction l generalizing k with
    | nil => cases k <;> rfl
    | cons x l ih => cases k with
      | zero => rfl
      | succ k => exact ih k
  have e2 : ∀ (k : Nat) (l : List Fb) (i : Nat) (u : Value), (setB i u k l).length = l.length := by
    intro k l i u
    have := congrArg List.length (setB_g i u k l); simpa using this
  have h0 := h.put k 0 u0 hb
  have h1 := h0.put k 1 u1 (by rw [e2]; exact hb)
  have h2 := h1.put k 2 u2 (by rw [e2, e2]; exact hb)
  simp only [e] at h2
  exact h2
theorem at_put (w : World) (g i : Nat) (u : Value) : At g w (w.setCell ⟨g, i, none⟩ u) := (At.refl g w).put i u
theorem own_three {B g : Nat} {w : World} {v : Value} {n : Nat} {e : TypeId} {s : Nat} {xs : List Value} {u0 u1 u2 : Value} (h : w.ownsRow B e s v n xs) (hg : g < B) :
    (((w.setCell ⟨g, 0, none⟩ u0).setCell ⟨g, 1, none⟩ u1).setCell ⟨g, 2, none⟩ u2).ownsRow B e s v n xs :=
  own_at h ((at_put _ _ _ _).trans ((at_put _ _ _ _).trans (at_put _ _ _ _))) (fun k => by have := (h.lt g k).1; omega)
end Go.Proofs.YthdafpbmmfelpaaGreatDoor
