/- A range over a function whose iterator turns blocks of its own, any number of them, and yields what lies in them: the law for the caller. Of any program. -/
import Derived.Test.YtkgaahmehmbfjaaLRf
import Derived.RangeFuncNested
import Derived.RangeFuncBound
import Derived.RangeFuncCalls
import Derived.RangeFuncLeaves
namespace Go.Proofs.Ytkgaahmehmbfjaa
open Go.RowKit
set_option linter.unusedVariables false
set_option linter.unusedSimpArgs false

/-- The blocks of S lie as they lay, and nothing was written out. -/
structure Kpo (S : Nat → Prop) (W W' : World) : Prop extends Kps S W W' where
  os : W'.os = W.os
  tape : W'.tape = W.tape
  output : W'.output = W.output
theorem Kpo.refl (S : Nat → Prop) (W : World) : Kpo S W W := ⟨Kps.refl S W, rfl, rfl, rfl⟩
theorem Kpo.less {S T : Nat → Prop} {A B : World} (h : Kpo S A B) (hs : ∀ k, T k → S k) : Kpo T A B := ⟨h.toKps.less hs, h.os, h.tape, h.output⟩
theorem Kpo.of {S : Nat → Prop} {A B : World} (h : Below A.heap.size A B) : Kpo S A B := ⟨Kps.below h, h.os, h.tape, h.output⟩
/-- How a round may be left. -/
def rndPosto {α : Type} (S T : Nat → Prop) (I : List α → World → Prop) (Ix : Code → List α → World → Prop) (xs : List α) (W : World) : Exit → Act → World → Prop
  | .normal, _, W' => Kpo S W W' ∧ I xs W'
  | .ret, _, W' => Kpo T W W' ∧ Ix .ret xs W'
  | .exit id, _, W' => Kpo T W W' ∧ Ix (.exit id) xs W'
  | _, _, _ => False

/-- What an iterator promises that turns nothing but blocks of its own, from the heap's end on; what it yields meets R. -/
def YieldsB {α : Type} (n : Nat) (P : Program) (gf : Nat) (ba lb : Array Value) (R : Nat → α → World → Array Value → Prop) (S : Nat → Prop) (xs : List α) (W : World) : Prop :=
  ∀ (l : Nat) (J Jx : List α → World → Prop), (∀ s A B, J s A → W.heap.size ≤ A.heap.size → Below W.heap.size A B → J s B) → (∀ s A B, Jx s A → Below A.heap.size A B → Jx s B) →
    (∀ pre x rest W1 vs, xs = pre ++ x :: rest → J pre W1 → W.heap.size ≤ W1.heap.size → R pre.length x W1 vs → YieldAt Fence.wide (n - 1) P l vs W1 fun e W' =>
      (e = .returned (.bool true) ∧ J (pre ++ [x]) W' ∧ Kpo (fun k => S k ∨ W.heap.size ≤ k) W1 W') ∨ (e = .returned (.bool false) ∧ Jx (pre ++ [x]) W')) →
    J [] W →
    CallsIn Fence.wide n P gf (ba ++ #[.func (.yield l) #[] #[]] ++ lb) W fun e W' => (∃ v, e = .returned v) ∧ (J xs W' ∨ ∃ pre rest, xs = pre ++ rest ∧ Jx pre W')
theorem Below.less {B C : Nat} {A A' : World} (h : Below B A A') (hc : C ≤ B) : Below C A A' := ⟨h.os, h.tape, h.output, h.size, fun k hk => h.block k (by omega)⟩
theorem Chg.of {lo hi : Nat} {A B : World} (h : Below A.heap.size A B) : Chg lo hi A B := ⟨h.os, h.tape, h.output, h.size, fun k hk _ => h.block k hk⟩
theorem Chg.below' {lo hi : Nat} {A B : World} (h : Chg lo hi A B) (hs : lo ≤ A.heap.size) : Below lo A B := ⟨h.os, h.tape, h.output, h.size, fun k hk => h.block k (by omega) (.inl hk)⟩

theorem wpIn_range_far {α : Type} {n : Nat} {P : Program} {g : Operand} {ps : Array Tmp} {assign body : Code} {Q : Exit → Act → World → Prop} {a : Act} {w : World}
    (h1 : 1 ≤ n) {gf : Nat} {ba lb : Array Value} (hg : a.eval g = .func (.func gf) ba lb) (eg : ∀ args w, (callFunc gf args).run P w = .ok (.enter gf args) w)
    {R : Nat → α → World → Array Value → Prop} (S : Nat → Prop) (xs : List α) (hps : ∀ i x W vs, R i x W vs → vs.size = ps.size)
    (hseq : ∀ W, W.heap.size = w.heap.size + 2 → Below w.heap.size w W → YieldsB (n - 1) P gf ba lb R S xs W)
    (I : List α → World → Prop) (Ix : Code → List α → World → Prop) (hI : ∀ s A B, I s A → w.heap.size ≤ A.heap.size → Below w.heap.size A B → I s B) (hIx : ∀ j, Abd w.heap.size (w.heap.size + 2) (Ix j)) (h0 : I [] w)
    (hround : ∀ (l : Nat) (pre : List α) (x : α) (rest : List α) (W : World) (vs : Array Value), xs = pre ++ x :: rest → I pre W → w.heap.size + 2 ≤ W.heap.size → R pre.length x W vs →
      assign.wpIn (Fence.wide.inRound l) (n - 1 - 1) P (Exit.then (fun a₁ w₁ => Kpo (fun k => S k ∨ w.heap.size ≤ k) W w₁ ∧
        ∀ w₂, Chg (w.heap.size + 1) (w.heap.size + 2) w₁ w₂ → w₂.heap.size = w₁.heap.size → body.wpIn (Fence.wide.inRound l) (n - 1 - 1) P (rndPosto (fun k => S k ∨ w.heap.size ≤ k) (fun k => w.heap.size ≤ k) I Ix (pre ++ [x]) w₂) a₁ w₂) (fun _ _ _ => False))
        { tmps := (ps.zip vs).foldl (fun t (p, v) => t.setIfInBounds p v) a.tmps, defers := [] } W)
    (hS : ∀ k, S k → k < w.heap.size)
    (hdone : ∀ W, I xs W → W.heap[w.heap.size]? = some (.deferred (some [])) → Q .normal { a with defers := { target := .collected w.heap.size, args := #[] } :: a.defers } W)
    (hstop : ∀ (j : Code) (pre rest : List α) (W : World), xs = pre ++ rest → Ix j pre W → W.heap[w.heap.size]? = some (.deferred (some [])) → j.wpIn Fence.wide n P Q { a with defers := { target := .collected w.heap.size, args := #[] } :: a.defers } W) :
    (Code.rangeFunc g ps assign body).wpIn Fence.wide n P Q a w := by
  refine wpIn_rangeFunc ?_
  intro fn hfn
  obtain ⟨rec, hrec⟩ : ∃ rec : LoopState → Option Code → Loop, rec = fun st pe => { state := st, pending := pe, fn, tmps := a.tmps, params := ps, assign, body, defers := w.heap.size } := ⟨_, rfl⟩
  obtain ⟨W1, hW1⟩ : ∃ W1, (w.alloc (.deferred (some []))).alloc (.loop (rec .ready none)) = W1 := ⟨_, rfl⟩
  have hL1 : W1.heap[w.heap.size + 1]? = some (.loop (rec .ready none)) := by
    rw [← hW1]; have := World.alloc_heap_new (w.alloc (.deferred (some []))) (.loop (rec .ready none)); rwa [World.size_alloc] at this
  have hK1 : W1.heap[w.heap.size]? = some (.deferred (some [])) := by
    rw [← hW1]; exact (Below.heap_alloc _ _ _ (by simp)).trans (World.alloc_heap_new w _)
  have hI1 : I [] W1 := by rw [← hW1]; exact hI _ _ _ h0 (Nat.le_refl _) (((Below.refl _ w).alloc (Nat.le_refl _) _).alloc (by simp) _)
  have hb1 : Below w.heap.size w W1 := by
    rw [← hW1]; exact ((Below.refl _ w).alloc (Nat.le_refl _) _).alloc (by simp) _
  have hs1 : W1.heap.size = w.heap.size + 2 := by rw [← hW1]; simp
  refine ⟨w.heap.size + 1, [{ target := .collected w.heap.size, args := #[] }], W1, { target := .fn (.func gf) lb, args := ba ++ #[.func (.yield (w.heap.size + 1)) #[] #[]] }, W1, gf,
    ba ++ #[.func (.yield (w.heap.size + 1)) #[] #[]] ++ lb, W1, ?_, ?_, ?_, ?_, fun _ => h1, ?_⟩
  · rw [← hW1, hrec]; exact run_enterLoop_outer _ _ _ _ _
  · simp only [resolve, hg]
    simp [go_sem]
  · intro f' hf'; trivial
  · simp [invoke, go_sem, eg]
  · refine (hseq W1 hs1 hb1 (w.heap.size + 1)
      (fun pre W => I pre W ∧ W.heap[w.heap.size + 1]? = some (.loop (rec .ready none)) ∧ W.heap[w.heap.size]? = some (.deferred (some [])))
      (fun pre W => ∃ j, Ix j pre W ∧ W.heap[w.heap.size + 1]? = some (.loop (rec .done (some j))) ∧ W.heap[w.heap.size]? = some (.deferred (some [])))
      (fun s A B hs hz hc => by
        rw [hs1] at hc hz
        have l1 := (Array.getElem?_eq_some_iff.1 hs.2.1).1
        exact ⟨hI _ _ _ hs.1 (by omega) (Below.less hc (by omega)), (hc.block _ (by omega)).trans hs.2.1, (hc.block _ (by omega)).trans hs.2.2⟩)
      (fun s A B hs hc => by
        obtain ⟨j, hs⟩ := hs
        have l1 := (Array.getElem?_eq_some_iff.1 hs.2.1).1
        exact ⟨j, hIx _ _ _ _ hs.1 (Chg.of hc), (hc.block _ l1).trans hs.2.1, (hc.block _ (by omega)).trans hs.2.2⟩)
      ?_ ⟨hI1, hL1, hK1⟩).mono ?_
    · rintro pre x rest W vs hxs ⟨hi, hl, hk⟩ hsz hR
      rw [hs1] at hsz ⊢
      have hy := run_yield (P := P) (args := vs) hl (by rw [hrec]; exact hps _ _ _ _ hR)
      rw [hrec] at hy
      refine ⟨fn, _, assign, body, hy, roundIn_of_wpIn trivial ?_⟩
      clear hy
      refine wpIn_mono (hround _ pre x rest W vs hxs hi (by omega) hR) ?_
      rintro e a1 W2 hp
      cases e with
      | normal =>
        obtain ⟨hk2, hb⟩ := hp
        have hl2 := (hk2.block _ (by omega) (.inr (by omega))).trans hl
        have hd2 := (hk2.block _ (by omega) (.inr (by omega))).trans hk
        have hz2 := hk2.size
        refine ⟨_, run_beginRound hl2 (by rw [hrec]), ?_⟩
        have hc3 : Chg (w.heap.size + 1) (w.heap.size + 2) W2 (W2.putObj (w.heap.size + 1) (.loop { rec .ready none with state := .busy })) := Chg.obj _ _ (Nat.le_refl _) (by omega)
        have hl3 : (W2.putObj (w.heap.size + 1) (.loop { rec .ready none with state := .busy })).heap[w.heap.size + 1]? = some (.loop { rec .ready none with state := .busy }) := World.putObj_heap_same (by omega)
        have hd3 : (W2.putObj (w.heap.size + 1) (.loop { rec .ready none with state := .busy })).heap[w.heap.size]? = some (.deferred (some [])) := (World.putObj_heap_other (by omega)).trans hd2
        refine wpIn_mono (hb _ hc3 (by simp)) ?_
        obtain ⟨W3, hW3⟩ : ∃ W3, W3 = W2.putObj (w.heap.size + 1) (.loop { rec .ready none with state := .busy }) := ⟨_, rfl⟩
        rw [← hW3] at hl3 hd3 hc3 ⊢
        have hz3 := hc3.size
        have fin : ∀ (jump : Option Code) (W4 : World), Kpo (fun k => w.heap.size ≤ k) W3 W4 →
            (Instr.endRound (w.heap.size + 1) jump).run P W4 = .ok (.bool jump.isNone) (W4.putObj (w.heap.size + 1) (.loop (rec (if jump.isNone then .ready else .done) jump))) ∧
            (W4.putObj (w.heap.size + 1) (.loop (rec (if jump.isNone then .ready else .done) jump))).heap[w.heap.size + 1]? = some (.loop (rec (if jump.isNone then .ready else .done) jump)) ∧
            (W4.putObj (w.heap.size + 1) (.loop (rec (if jump.isNone then .ready else .done) jump))).heap[w.heap.size]? = some (.deferred (some [])) := fun jump W4 hk4 => by
          have hl4 := (hk4.block _ (by omega) (by omega)).trans hl3
          have hd4 := (hk4.block _ (by omega) (by omega)).trans hd3
          have hz4 := hk4.size
          have := run_endRound (P := P) jump hl4
          rw [hrec] at this ⊢
          exact ⟨this, World.putObj_heap_same (by omega), (World.putObj_heap_other (by omega)).trans hd4⟩
        have hkk : ∀ (o : Obj) (W4 : World), Kpo (fun k => S k ∨ w.heap.size ≤ k) W3 W4 → Kpo (fun k => S k ∨ w.heap.size + 2 ≤ k) W (W4.putObj (w.heap.size + 1) o) := fun o W4 hk4 => by
          refine ⟨⟨by have := hk4.size; simp; omega, fun k hk hs => ?_⟩, ?_, ?_, ?_⟩
          rotate_left
          · show W4.os = W.os; rw [hk4.os, hW3]; exact hk2.os
          · show W4.tape = W.tape; rw [hk4.tape, hW3]; exact hk2.tape
          · show W4.output = W.output; rw [hk4.output, hW3]; exact hk2.output
          have hne : k ≠ w.heap.size + 1 := by
            rcases hs with hs | hs
            · have := hS k hs; omega
            · omega
          have hs' : S k ∨ w.heap.size ≤ k := by
            rcases hs with hs | hs
            · exact .inl hs
            · exact .inr (by omega)
          rw [World.putObj_heap_other hne, hk4.block k (by omega) hs', hW3, World.putObj_heap_other hne]
          exact hk2.block k hk hs'
        rintro e a3 W4 hp
        cases e with
        | normal =>
          obtain ⟨hk4, hi4⟩ := hp
          obtain ⟨hr, hl4, hd4⟩ := fin none W4 (hk4.less fun k h => .inr h)
          exact ⟨_, _, hr, .inl ⟨rfl, ⟨hI _ _ _ hi4 (by have := hk4.size; omega) (Chg.below' (lo := w.heap.size) (hi := w.heap.size + 2) (Chg.obj _ _ (by omega) (by omega)) (by have := hk4.size; omega)), hl4, hd4⟩, hkk _ _ hk4⟩⟩
        | ret =>
          obtain ⟨hk4, hi4⟩ := hp
          obtain ⟨hr, hl4, hd4⟩ := fin (some .ret) W4 hk4
          exact ⟨_, _, hr, .inr ⟨rfl, _, hIx _ _ _ _ hi4 (Chg.obj _ _ (by omega) (by omega)), hl4, hd4⟩⟩
        | exit id =>
          obtain ⟨hk4, hi4⟩ := hp
          obtain ⟨hr, hl4, hd4⟩ := fin (some (.exit id)) W4 hk4
          exact ⟨_, _, hr, .inr ⟨rfl, _, hIx _ _ _ _ hi4 (Chg.obj _ _ (by omega) (by omega)), hl4, hd4⟩⟩
        | goto t => exact hp.elim
        | panic ch => exact hp.elim
        | outgrown => exact hp.elim
      | exit id => exact hp.elim
      | goto t => exact hp.elim
      | ret => exact hp.elim
      | panic ch => exact hp.elim
      | outgrown => exact hp.elim
    · rintro e W2 ⟨⟨v, rfl⟩, (⟨hi, hl, hk⟩ | ⟨pre, rest, hxs, j, hi, hl, hk⟩)⟩
      · exact ⟨none, _, by have := run_endLoop (P := P) hl (by rw [hrec]; simp); rw [hrec] at this; exact this, hdone _ (hI _ _ _ hi (by have l1 : w.heap.size + 1 < W2.heap.size := (Array.getElem?_eq_some_iff.1 hl).1; omega) (Chg.below' (lo := w.heap.size) (hi := w.heap.size + 2) (Chg.obj _ _ (by omega) (by omega)) (by have l1 : w.heap.size + 1 < W2.heap.size := (Array.getElem?_eq_some_iff.1 hl).1; omega))) ((World.putObj_heap_other (by omega)).trans hk)⟩
      · exact ⟨some j, _, by have := run_endLoop (P := P) hl (by rw [hrec]; simp); rw [hrec] at this; exact this, hstop j pre rest _ hxs (hIx _ _ _ _ hi (Chg.obj _ _ (by omega) (by omega))) ((World.putObj_heap_other (by omega)).trans hk)⟩
end Go.Proofs.Ytkgaahmehmbfjaa
