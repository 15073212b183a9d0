/- A range over a function whose iterator keeps its state in c cells of its own: the law for the caller. -/
import Derived.Test.YtkgaahmehmbfjaaZ1
import Derived.RangeFuncNested
import Derived.RangeFuncBound
import Derived.RangeFuncCalls
import Derived.RangeFuncLeaves
namespace Go.Proofs.Ytkgaahmehmbfjaa
open Go.RowKit
set_option linter.unusedVariables false
set_option linter.unusedSimpArgs false

/-- Of the blocks that lay, none is turned but such as lie from lo on, ahead of hi. -/
structure Chg (lo hi : Nat) (W W' : World) : Prop where
  os : W'.os = W.os
  tape : W'.tape = W.tape
  output : W'.output = W.output
  size : W.heap.size ≤ W'.heap.size
  block : ∀ k, k < W.heap.size → (k < lo ∨ hi ≤ k) → W'.heap[k]? = W.heap[k]?
theorem Chg.refl (lo hi : Nat) (W : World) : Chg lo hi W W := ⟨rfl, rfl, rfl, Nat.le_refl _, fun _ _ _ => rfl⟩
theorem Chg.trans {lo hi : Nat} {A B C : World} (h : Chg lo hi A B) (k : Chg lo hi B C) : Chg lo hi A C :=
  ⟨k.os.trans h.os, k.tape.trans h.tape, k.output.trans h.output, Nat.le_trans h.size k.size, fun j hj hl => (k.block j (Nat.lt_of_lt_of_le hj h.size) hl).trans (h.block j hj hl)⟩
theorem Chg.wide {lo hi lo' hi' : Nat} {A B : World} (h : Chg lo hi A B) (h1 : lo' ≤ lo) (h2 : hi ≤ hi') : Chg lo' hi' A B := ⟨h.os, h.tape, h.output, h.size, fun k hk hl => h.block k hk (by omega)⟩
theorem Chg.alloc {lo hi : Nat} (W : World) (o : Obj) : Chg lo hi W (W.alloc o) := ⟨rfl, rfl, rfl, by simp, fun k hk _ => Below.heap_alloc W o k hk⟩
theorem Chg.drew {lo hi : Nat} (W : World) (n : Nat) : Chg lo hi W (W.drewN n) := ⟨rfl, rfl, rfl, Nat.le_refl _, fun _ _ _ => rfl⟩
theorem Chg.put {lo hi : Nat} (W : World) (p : Addr) (v : Value) (h1 : lo ≤ p.block) (h2 : p.block < hi) : Chg lo hi W (W.setCell p v) :=
  ⟨rfl, rfl, rfl, by simp [World.setCell], fun k hk hl => Below.heap_setCell _ _ _ _ (by omega)⟩
theorem Chg.obj {lo hi l : Nat} (W : World) (o : Obj) (h1 : lo ≤ l) (h2 : l < hi) : Chg lo hi W (W.putObj l o) :=
  ⟨rfl, rfl, rfl, by simp, fun k hk hl => World.putObj_heap_other (by omega)⟩
theorem Chg.below {lo hi B : Nat} {W W' : World} (h : Chg lo hi W W') (hB : B ≤ lo) (hs : B ≤ W.heap.size) : Below B W W' := ⟨h.os, h.tape, h.output, h.size, fun k hk => h.block k (by omega) (.inl (by omega))⟩
/-- The blocks of S lie as they lay. -/
structure Kps (S : Nat → Prop) (W W' : World) : Prop where
  size : W.heap.size ≤ W'.heap.size
  block : ∀ k, k < W.heap.size → S k → W'.heap[k]? = W.heap[k]?
theorem Kps.refl (S : Nat → Prop) (W : World) : Kps S W W := ⟨Nat.le_refl _, fun _ _ _ => rfl⟩
theorem Kps.trans {S : Nat → Prop} {A B C : World} (h : Kps S A B) (k : Kps S B C) : Kps S A C := ⟨Nat.le_trans h.size k.size, fun j hj hs => (k.block j (Nat.lt_of_lt_of_le hj h.size) hs).trans (h.block j hj hs)⟩
theorem Kps.alloc {S : Nat → Prop} (W : World) (o : Obj) : Kps S W (W.alloc o) := ⟨by simp, fun k hk _ => Below.heap_alloc W o k hk⟩
theorem Kps.put {S : Nat → Prop} (W : World) (p : Addr) (v : Value) (h : ¬ S p.block) : Kps S W (W.setCell p v) := ⟨by simp [World.setCell], fun k hk hs => Below.heap_setCell _ _ _ _ (fun e => h (e ▸ hs))⟩
theorem Kps.less {S T : Nat → Prop} {A B : World} (h : Kps S A B) (hs : ∀ k, T k → S k) : Kps T A B := ⟨h.size, fun k hk ht => h.block k hk (hs k ht)⟩
theorem Kps.below {S : Nat → Prop} {A B : World} (h : Below A.heap.size A B) : Kps S A B := ⟨h.size, fun k hk _ => h.block k hk⟩
theorem Kps.grown {S : Nat → Prop} {A B : World} {row : Option Nat} (hg : A.grownBy B row) (hr : ∀ k, row = some k → ¬ S k) : Kps S A B := ⟨hg.size, fun k hk hs => hg.block k hk (fun e => hr k e.symm hs)⟩
def Abd (lo hi : Nat) {β : Type} (J : β → World → Prop) : Prop := ∀ s W W', J s W → Chg lo hi W W' → J s W'

/-- What an iterator promises that lays c cells of its own, from the heap's end on. -/
def Yields {α : Type} (c : Nat) (n : Nat) (P : Program) (gf : Nat) (ba lb : Array Value) (encs : α → Array Value) (S : Nat → Prop) (xs : List α) (W : World) : Prop :=
  ∀ (l : Nat) (J Jx : List α → World → Prop), Abd W.heap.size (W.heap.size + c) J → Abd W.heap.size (W.heap.size + c) Jx →
    (∀ pre x rest W1, xs = pre ++ x :: rest → J pre W1 → W.heap.size + c ≤ W1.heap.size → YieldAt Fence.wide (n - 1) P l (encs x) W1 fun e W' =>
      (e = .returned (.bool true) ∧ J (pre ++ [x]) W' ∧ Kps (fun k => S k ∨ W.heap.size ≤ k ∧ k < W.heap.size + c) W1 W') ∨ (e = .returned (.bool false) ∧ Jx (pre ++ [x]) W')) →
    J [] W →
    CallsIn Fence.wide n P gf (ba ++ #[.func (.yield l) #[] #[]] ++ lb) W fun e W' => (∃ v, e = .returned v) ∧ (J xs W' ∨ ∃ pre rest, xs = pre ++ rest ∧ Jx pre W')

/-- How a round may be left. -/
def rndPost {α : Type} (S : Nat → Prop) (I : List α → World → Prop) (Ix : Code → List α → World → Prop) (xs : List α) (W : World) : Exit → Act → World → Prop
  | .normal, _, W' => Kps S W W' ∧ I xs W'
  | .ret, _, W' => Kps S W W' ∧ Ix .ret xs W'
  | .exit id, _, W' => Kps S W W' ∧ Ix (.exit id) xs W'
  | _, _, _ => False

theorem wpIn_range_own {α : Type} (c : Nat) {n : Nat} {P : Program} {g : Operand} {ps : Array Tmp} {assign body : Code} {Q : Exit → Act → World → Prop} {a : Act} {w : World}
    (h1 : 1 ≤ n) {gf : Nat} {ba lb : Array Value} (hg : a.eval g = .func (.func gf) ba lb) (eg : ∀ args w, (callFunc gf args).run P w = .ok (.enter gf args) w)
    {encs : α → Array Value} (S : Nat → Prop) (xs : List α) (hps : ∀ x, (encs x).size = ps.size)
    (hseq : ∀ W, W.heap.size = w.heap.size + 2 → Below w.heap.size w W → Yields c (n - 1) P gf ba lb encs S xs W)
    (I : List α → World → Prop) (Ix : Code → List α → World → Prop) (hI : Abd w.heap.size (w.heap.size + (c + 2)) I) (hIx : ∀ j, Abd w.heap.size (w.heap.size + (c + 2)) (Ix j)) (h0 : I [] w)
    (hround : ∀ (l : Nat) (pre : List α) (x : α) (rest : List α) (W : World), xs = pre ++ x :: rest → I pre W → w.heap.size + (c + 2) ≤ W.heap.size →
      assign.wpIn (Fence.wide.inRound l) (n - 1 - 1) P (Exit.then (fun a₁ w₁ => Kps (fun k => S k ∨ w.heap.size ≤ k ∧ k < w.heap.size + (c + 2)) W w₁ ∧
        ∀ w₂, Chg (w.heap.size + 1) (w.heap.size + 2) w₁ w₂ → w₂.heap.size = w₁.heap.size → body.wpIn (Fence.wide.inRound l) (n - 1 - 1) P (rndPost (fun k => S k ∨ w.heap.size ≤ k ∧ k < w.heap.size + (c + 2)) I Ix (pre ++ [x]) w₂) a₁ w₂) (fun _ _ _ => False))
        { tmps := (ps.zip (encs x)).foldl (fun t (p, v) => t.setIfInBounds p v) a.tmps, defers := [] } W)
    (hS : ∀ k, S k → k < w.heap.size)
    (hdone : ∀ W, I xs W → W.heap[w.heap.size]? = some (.deferred (some [])) → Q .normal { a with defers := { target := .collected w.heap.size, args := #[] } :: a.defers } W)
    (hstop : ∀ (j : Code) (pre rest : List α) (W : World), xs = pre ++ rest → Ix j pre W → W.heap[w.heap.size]? = some (.deferred (some [])) → j.wpIn Fence.wide n P Q { a with defers := { target := .collected w.heap.size, args := #[] } :: a.defers } W) :
    (Code.rangeFunc g ps assign body).wpIn Fence.wide n P Q a w := by
  refine wpIn_rangeFunc ?_
  intro fn hfn
  obtain ⟨rec, hrec⟩ : ∃ rec : LoopState → Option Code → Loop, rec = fun st pe => { state := st, pending := pe, fn, tmps := a.tmps, params := ps, assign, body, defers := w.heap.size } := ⟨_, rfl⟩
  obtain ⟨W1, hW1⟩ : ∃ W1, (w.alloc (.deferred (some []))).alloc (.loop (rec .ready none)) = W1 := ⟨_, rfl⟩
  have hL1 : W1.heap[w.heap.size + 1]? = some (.loop (rec .ready none)) := by
    rw [← hW1]; have := World.alloc_heap_new (w.alloc (.deferred (some []))) (.loop (rec .ready none)); rwa [World.size_alloc] at this
  have hK1 : W1.heap[w.heap.size]? = some (.deferred (some [])) := by
    rw [← hW1]; exact (Below.heap_alloc _ _ _ (by simp)).trans (World.alloc_heap_new w _)
  have hI1 : I [] W1 := by rw [← hW1]; exact hI _ _ _ h0 ((Chg.alloc _ _).trans (Chg.alloc _ _))
  have hb1 : Below w.heap.size w W1 := by
    rw [← hW1]; exact ((Below.refl _ w).alloc (Nat.le_refl _) _).alloc (by simp) _
  have hs1 : W1.heap.size = w.heap.size + 2 := by rw [← hW1]; simp
  refine ⟨w.heap.size + 1, [{ target := .collected w.heap.size, args := #[] }], W1, { target := .fn (.func gf) lb, args := ba ++ #[.func (.yield (w.heap.size + 1)) #[] #[]] }, W1, gf,
    ba ++ #[.func (.yield (w.heap.size + 1)) #[] #[]] ++ lb, W1, ?_, ?_, ?_, ?_, fun _ => h1, ?_⟩
  · rw [← hW1, hrec]; exact run_enterLoop_outer _ _ _ _ _
  · simp only [resolve, hg]
    simp [go_sem]
  · intro f' hf'; trivial
  · simp [invoke, go_sem, eg]
  · refine (hseq W1 hs1 hb1 (w.heap.size + 1)
      (fun pre W => I pre W ∧ W.heap[w.heap.size + 1]? = some (.loop (rec .ready none)) ∧ W.heap[w.heap.size]? = some (.deferred (some [])))
      (fun pre W => ∃ j, Ix j pre W ∧ W.heap[w.heap.size + 1]? = some (.loop (rec .done (some j))) ∧ W.heap[w.heap.size]? = some (.deferred (some [])))
      (fun s A B hs hc => by
        rw [hs1] at hc
        have l1 := (Array.getElem?_eq_some_iff.1 hs.2.1).1
        exact ⟨hI _ _ _ hs.1 (hc.wide (by omega) (by omega)), (hc.block _ l1 (.inl (by omega))).trans hs.2.1, (hc.block _ (by omega) (.inl (by omega))).trans hs.2.2⟩)
      (fun s A B hs hc => by
        obtain ⟨j, hs⟩ := hs
        rw [hs1] at hc
        have l1 := (Array.getElem?_eq_some_iff.1 hs.2.1).1
        exact ⟨j, hIx _ _ _ _ hs.1 (hc.wide (by omega) (by omega)), (hc.block _ l1 (.inl (by omega))).trans hs.2.1, (hc.block _ (by omega) (.inl (by omega))).trans hs.2.2⟩)
      ?_ ⟨hI1, hL1, hK1⟩).mono ?_
    · rintro pre x rest W hxs ⟨hi, hl, hk⟩ hsz
      rw [hs1] at hsz ⊢
      have hy := run_yield (P := P) (args := encs x) hl (by rw [hrec]; exact hps x)
      rw [hrec] at hy
      refine ⟨fn, _, assign, body, hy, roundIn_of_wpIn trivial ?_⟩
      clear hy
      refine wpIn_mono (hround _ pre x rest W hxs hi (by omega)) ?_
      rintro e a1 W2 hp
      cases e with
      | normal =>
        obtain ⟨hk2, hb⟩ := hp
        have hl2 := (hk2.block _ (by omega) (.inr ⟨by omega, by omega⟩)).trans hl
        have hd2 := (hk2.block _ (by omega) (.inr ⟨by omega, by omega⟩)).trans hk
        have hz2 := hk2.size
        refine ⟨_, run_beginRound hl2 (by rw [hrec]), ?_⟩
        have hc3 : Chg (w.heap.size + 1) (w.heap.size + 2) W2 (W2.putObj (w.heap.size + 1) (.loop { rec .ready none with state := .busy })) := Chg.obj _ _ (Nat.le_refl _) (by omega)
        have hl3 : (W2.putObj (w.heap.size + 1) (.loop { rec .ready none with state := .busy })).heap[w.heap.size + 1]? = some (.loop { rec .ready none with state := .busy }) := World.putObj_heap_same (by omega)
        have hd3 : (W2.putObj (w.heap.size + 1) (.loop { rec .ready none with state := .busy })).heap[w.heap.size]? = some (.deferred (some [])) := (World.putObj_heap_other (by omega)).trans hd2
        refine wpIn_mono (hb _ hc3 (by simp)) ?_
        obtain ⟨W3, hW3⟩ : ∃ W3, W3 = W2.putObj (w.heap.size + 1) (.loop { rec .ready none with state := .busy }) := ⟨_, rfl⟩
        rw [← hW3] at hl3 hd3 hc3 ⊢
        have hz3 := hc3.size
        have fin : ∀ (jump : Option Code) (W4 : World), Kps (fun k => S k ∨ w.heap.size ≤ k ∧ k < w.heap.size + (c + 2)) W3 W4 →
            (Instr.endRound (w.heap.size + 1) jump).run P W4 = .ok (.bool jump.isNone) (W4.putObj (w.heap.size + 1) (.loop (rec (if jump.isNone then .ready else .done) jump))) ∧
            (W4.putObj (w.heap.size + 1) (.loop (rec (if jump.isNone then .ready else .done) jump))).heap[w.heap.size + 1]? = some (.loop (rec (if jump.isNone then .ready else .done) jump)) ∧
            (W4.putObj (w.heap.size + 1) (.loop (rec (if jump.isNone then .ready else .done) jump))).heap[w.heap.size]? = some (.deferred (some [])) := fun jump W4 hk4 => by
          have hl4 := (hk4.block _ (by omega) (.inr ⟨by omega, by omega⟩)).trans hl3
          have hd4 := (hk4.block _ (by omega) (.inr ⟨by omega, by omega⟩)).trans hd3
          have hz4 := hk4.size
          have := run_endRound (P := P) jump hl4
          rw [hrec] at this ⊢
          exact ⟨this, World.putObj_heap_same (by omega), (World.putObj_heap_other (by omega)).trans hd4⟩
        have hkk : ∀ (o : Obj) (W4 : World), Kps (fun k => S k ∨ w.heap.size ≤ k ∧ k < w.heap.size + (c + 2)) W3 W4 → Kps (fun k => S k ∨ w.heap.size + 2 ≤ k ∧ k < w.heap.size + 2 + c) W (W4.putObj (w.heap.size + 1) o) := fun o W4 hk4 => by
          refine ⟨by have := hk4.size; simp; omega, fun k hk hs => ?_⟩
          have hne : k ≠ w.heap.size + 1 := by
            rcases hs with hs | hs
            · have := hS k hs; omega
            · omega
          have hs' : S k ∨ w.heap.size ≤ k ∧ k < w.heap.size + (c + 2) := by
            rcases hs with hs | hs
            · exact .inl hs
            · exact .inr ⟨by omega, by omega⟩
          rw [World.putObj_heap_other hne, hk4.block k (by omega) hs', hW3, World.putObj_heap_other hne]
          exact hk2.block k hk hs'
        rintro e a3 W4 hp
        cases e with
        | normal =>
          obtain ⟨hk4, hi4⟩ := hp
          obtain ⟨hr, hl4, hd4⟩ := fin none W4 hk4
          exact ⟨_, _, hr, .inl ⟨rfl, ⟨hI _ _ _ hi4 (Chg.obj _ _ (by omega) (by omega)), hl4, hd4⟩, hkk _ _ hk4⟩⟩
        | ret =>
          obtain ⟨hk4, hi4⟩ := hp
          obtain ⟨hr, hl4, hd4⟩ := fin (some .ret) W4 hk4
          exact ⟨_, _, hr, .inr ⟨rfl, _, hIx _ _ _ _ hi4 (Chg.obj _ _ (by omega) (by omega)), hl4, hd4⟩⟩
        | exit id =>
          obtain ⟨hk4, hi4⟩ := hp
          obtain ⟨hr, hl4, hd4⟩ := fin (some (.exit id)) W4 hk4
          exact ⟨_, _, hr, .inr ⟨rfl, _, hIx _ _ _ _ hi4 (Chg.obj _ _ (by omega) (by omega)), hl4, hd4⟩⟩
        | goto t => exact hp.elim
        | panic ch => exact hp.elim
        | outgrown => exact hp.elim
      | exit id => exact hp.elim
      | goto t => exact hp.elim
      | ret => exact hp.elim
      | panic ch => exact hp.elim
      | outgrown => exact hp.elim
    · rintro e W2 ⟨⟨v, rfl⟩, (⟨hi, hl, hk⟩ | ⟨pre, rest, hxs, j, hi, hl, hk⟩)⟩
      · exact ⟨none, _, by have := run_endLoop (P := P) hl (by rw [hrec]; simp); rw [hrec] at this; exact this, hdone _ (hI _ _ _ hi (Chg.obj _ _ (by omega) (by omega))) ((World.putObj_heap_other (by omega)).trans hk)⟩
      · exact ⟨some j, _, by have := run_endLoop (P := P) hl (by rw [hrec]; simp); rw [hrec] at this; exact this, hstop j pre rest _ hxs (hIx _ _ _ _ hi (Chg.obj _ _ (by omega) (by omega))) ((World.putObj_heap_other (by omega)).trans hk)⟩
end Go.Proofs.Ytkgaahmehmbfjaa
