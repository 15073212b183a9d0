/- Words between spaces, and lines: as plain functions on lists of bytes. A range over a function whose iterator turns one block that lay before the loop (its own state): the law for the caller. Of any program. strings.Lines: its iterator. strings.Lines: its iterator. Parse of the program. Words and lines of a schedule, written and read back: plain functions on lists of bytes. A schedule's text, read back line by line; and a text that was read, written again. ScheduleBack: the walk. -/
import Derived.Test.YthdafpbmmfelpaaGreatDoorRows
import Derived.Lib.SplitLaws
import Derived.Lib.IndexBytes
import Derived.Lib.IndexLaws
import Derived.Test.YthdafpbmmfelpaaGreatDoorRf
import Derived.Test.YthdafpbmmfelpaaGreatDoorPj
import Derived.LoopIn
import Derived.LoopNIn
import Derived.OwnWalkIn
import Derived.TacticsInMore
import Derived.Test.YthdafpbmmfelpaaGreatDoorM1
import Derived.Shelf.Abstract
import Derived.Shelf.RegionOpen
import Derived.RangeFuncBox
import Derived.Sort.CutIn
import Derived.Test.YthdafpbmmfelpaaGreatDoorBr
import Derived.Test.YthdafpbmmfelpaaGreatDoorRd
import Derived.Test.YthdafpbmmfelpaaGreatDoorPq
import Derived.Maps.OwnIn
import Derived.Test.YthdafpbmmfelpaaGreatDoorTx
import Derived.Test.YthdafpbmmfelpaaGreatDoorRt0
import Derived.Test.YthdafpbmmfelpaaGreatDoorAx
import Derived.Test.YthdafpbmmfelpaaGreatDoorFw
namespace Go.Proofs.YthdafpbmmfelpaaGreatDoor
set_option linter.unusedVariables false
set_option linter.unusedSimpArgs false

/-- What stands between single spaces. -/
def wds : List UInt8 → List (List UInt8)
  | [] => [[]]
  | c :: l => if c = 32 then [] :: wds l else match wds l with
    | [] => [[c]]
    | x :: xs => (c :: x) :: xs
theorem wds_none : ∀ {l : List UInt8}, (∀ c ∈ l, c ≠ 32) → wds l = [l]
  | [], _ => rfl
  | c :: l, h => by
    have h1 := h c (by simp)
    have ih := wds_none (l := l) fun x hx => h x (by simp [hx])
    rw [wds, if_neg h1, ih]
theorem wds_hit : ∀ {a b : List UInt8}, (∀ c ∈ a, c ≠ 32) → wds (a ++ 32 :: b) = a :: wds b
  | [], b, _ => by simp [wds]
  | c :: a, b, h => by
    have h1 := h c (by simp)
    have ih := wds_hit (a := a) (b := b) fun x hx => h x (by simp [hx])
    rw [List.cons_append, wds, if_neg h1, ih]
theorem ext_list (s : ByteArray) (a b : Nat) : (s.extract a b).data.toList = (s.data.toList.take b).drop a := by
  rw [ByteArray.data_extract, Array.toList_extract]
  simp [List.drop_take]
theorem split_wds : ∀ (k : Nat) (s : ByteArray), Lib.countB s ⟨#[32]⟩ = k → (Lib.splitB ⟨#[32]⟩ 0 k s).map (·.data.toList) = wds s.data.toList
  | k, s, hk => by
    have h1 : Lib.indexB s ⟨#[32]⟩ = Lib.indexByte s.data.toList 32 := Lib.index_one _ _
    rcases Lib.indexB_cases s ⟨#[32]⟩ with hix | ⟨i, hix, hroom⟩
    · rw [Lib.splitB_miss _ _ _ _ hix]
      rw [h1] at hix
      have hn := Lib.indexByte_none hix
      rw [wds_none]
      · rfl
      · intro c hc e
        obtain ⟨j, hj, e2⟩ := List.getElem_of_mem hc
        exact hn j (by rw [List.getElem?_eq_getElem hj, e2, e])
    · have hc := Lib.countB_hit s ⟨#[32]⟩ i (by decide) hix
      obtain ⟨m, rfl⟩ : ∃ m, k = m + 1 := ⟨k - 1, by omega⟩
      rw [Lib.splitB_hit _ _ _ _ i hix, List.map_cons]
      have ih := split_wds m (s.extract (i + (⟨#[32]⟩ : ByteArray).size) s.size) (by omega)
      rw [ih]
      rw [h1] at hix
      obtain ⟨ha, hb⟩ := Lib.indexByte_some hix
      have e1 : (⟨#[32]⟩ : ByteArray).size = 1 := rfl
      rw [e1, Nat.add_zero, ext_list, ext_list]
      have hl : i < s.data.toList.length := by
        rcases Nat.lt_or_ge i s.data.toList.length with h | h
        · exact h
        · rw [List.getElem?_eq_none h] at ha; cases ha
      have e2 : s.data.toList = s.data.toList.take i ++ 32 :: s.data.toList.drop (i + 1) := by
        have : s.data.toList.drop i = 32 :: s.data.toList.drop (i + 1) := by
          rw [List.drop_eq_getElem_cons hl]
          rw [List.getElem?_eq_getElem hl] at ha
          simp only [Option.some.injEq] at ha
          rw [ha]
        rw [← this, List.take_append_drop]
      have e3 : s.size = s.data.toList.length := by simp
      rw [e3, List.take_of_length_le (Nat.le_refl _), List.drop_zero]
      conv => rhs; rw [e2]
      rw [wds_hit]
      intro c hc e
      obtain ⟨j, hj, e4⟩ := List.getElem_of_mem hc
      have hji : j < i := by simp at hj; omega
      refine hb j hji ?_
      rw [List.getElem_take] at e4
      rw [List.getElem?_eq_getElem (by omega), e4, e]
  termination_by k => k
/-- The lines of a text, each with its end, if it has one. -/
def lnz : List UInt8 → List (List UInt8)
  | [] => []
  | c :: l => if c = 10 then [10] :: lnz l else match lnz l with
    | [] => [[c]]
    | x :: xs => (c :: x) :: xs
theorem lnz_last : ∀ {l : List UInt8}, (∀ c ∈ l, c ≠ 10) → l ≠ [] → lnz l = [l]
  | [], _, h => absurd rfl h
  | c :: l, h, _ => by
    have h1 := h c (by simp)
    rw [lnz, if_neg h1]
    cases l with
    | nil => rfl
    | cons d l => rw [lnz_last (l := d :: l) (fun x hx => h x (by simp [hx])) (by simp)]
theorem lnz_hit : ∀ {a b : List UInt8}, (∀ c ∈ a, c ≠ 10) → lnz (a ++ 10 :: b) = (a ++ [10]) :: lnz b
  | [], b, _ => by simp [lnz]
  | c :: a, b, h => by
    have h1 := h c (by simp)
    have ih := lnz_hit (a := a) (b := b) fun x hx => h x (by simp [hx])
    rw [List.cons_append, lnz, if_neg h1, ih, List.cons_append]
theorem lnz_le : ∀ l : List UInt8, (lnz l).length ≤ l.length
  | [] => Nat.le_refl _
  | c :: l => by
    have ih := lnz_le l
    unfold lnz
    split
    · simp; exact ih
    · split
      · simp
      · rename_i h; rw [h] at ih; simp at ih ⊢; omega
theorem lnz_ne : ∀ (l : List UInt8), ∀ x ∈ lnz l, x ≠ []
  | [], x, h => by cases h
  | c :: l, x, h => by
    unfold lnz at h
    split at h
    · rcases List.mem_cons.1 h with rfl | h
      · simp
      · exact lnz_ne l x h
    · split at h
      · rw [List.mem_singleton] at h; rw [h]; simp
      · rename_i h2
        rcases List.mem_cons.1 h with rfl | h
        · simp
        · exact lnz_ne l x (by rw [h2]; exact List.mem_cons_of_mem _ h)
theorem lnz_size : ∀ (l : List UInt8), ∀ x ∈ lnz l, x.length ≤ l.length
  | [], x, h => by cases h
  | c :: l, x, h => by
    unfold lnz at h
    split at h
    · rcases List.mem_cons.1 h with rfl | h
      · simp
      · have := lnz_size l x h; simp; omega
    · split at h
      · rw [List.mem_singleton] at h; rw [h]; simp
      · rename_i y ys h2
        rcases List.mem_cons.1 h with rfl | h
        · have := lnz_size l y (by rw [h2]; simp); simp; omega
        · have := lnz_size l x (by rw [h2]; exact List.mem_cons_of_mem _ h); simp; omega
/-- A text is its lines. -/
theorem lnz_flat : ∀ (l : List UInt8), (lnz l).flatten = l
  | [] => rfl
  | c :: l => by
    have ih := lnz_flat l
    unfold lnz
    split
    · rename_i h; rw [List.flatten_cons, ih, h]; rfl
    · split
      · rename_i h; rw [h] at ih; simp at ih; simp [ih]
      · rename_i x xs h; rw [h] at ih; simp at ih; simp [ih]
/-- How many lines come before the first that is not well formed. -/
def oks (p : List UInt8 → Bool) : List (List UInt8) → Nat
  | [] => 0
  | x :: xs => if p x = true then oks p xs + 1 else 0
theorem oks_le (p : List UInt8 → Bool) : ∀ l, oks p l ≤ l.length
  | [] => Nat.le_refl _
  | x :: xs => by
    have := oks_le p xs
    unfold oks; split <;> simp; omega
theorem oks_app (p : List UInt8 → Bool) : ∀ {a b : List (List UInt8)}, (∀ x ∈ a, p x = true) → oks p (a ++ b) = a.length + oks p b
  | [], b, _ => by simp
  | x :: a, b, h => by
    have ih := oks_app p (a := a) (b := b) fun y hy => h y (by simp [hy])
    rw [List.cons_append, oks, if_pos (h x (by simp)), ih, List.length_cons]; omega
end Go.Proofs.YthdafpbmmfelpaaGreatDoor
namespace Go.Proofs.YthdafpbmmfelpaaGreatDoor
open Go.RowKit
set_option linter.unusedVariables false
set_option linter.unusedSimpArgs false

/-- What an iterator promises that lays c cells of its own, from the heap's end on, and turns an older block g. -/
def YieldsM {α : Type} (g : Nat) (c : Nat) (n : Nat) (P : Program) (gf : Nat) (ba lb : Array Value) (encs : α → Array Value) (S : Nat → Prop) (xs : List α) (W : World) : Prop :=
  ∀ (l : Nat) (J Jx : List α → World → Prop), Abd W.heap.size (W.heap.size + c) J → Abd W.heap.size (W.heap.size + c) Jx → Abd g (g + 1) J → Abd g (g + 1) Jx →
    (∀ pre x rest W1, xs = pre ++ x :: rest → J pre W1 → W.heap.size + c ≤ W1.heap.size → YieldAt Fence.wide (n - 1) P l (encs x) W1 fun e W' =>
      (e = .returned (.bool true) ∧ J (pre ++ [x]) W' ∧ Kps (fun k => S k ∨ W.heap.size ≤ k ∧ k < W.heap.size + c) W1 W') ∨ (e = .returned (.bool false) ∧ Jx (pre ++ [x]) W')) →
    J [] W →
    CallsIn Fence.wide n P gf (ba ++ #[.func (.yield l) #[] #[]] ++ lb) W fun e W' => (∃ v, e = .returned v) ∧ (J xs W' ∨ ∃ pre rest, xs = pre ++ rest ∧ Jx pre W')

theorem wpIn_range_mut {α : Type} (gm : Nat) (c : Nat) {n : Nat} {P : Program} {g : Operand} {ps : Array Tmp} {assign body : Code} {Q : Exit → Act → World → Prop} {a : Act} {w : World}
    (h1 : 1 ≤ n) {gf : Nat} {ba lb : Array Value} (hg : a.eval g = .func (.func gf) ba lb) (eg : ∀ args w, (callFunc gf args).run P w = .ok (.enter gf args) w)
    {encs : α → Array Value} (S : Nat → Prop) (xs : List α) (hps : ∀ x, (encs x).size = ps.size)
    (hseq : ∀ W, W.heap.size = w.heap.size + 2 → Below w.heap.size w W → YieldsM gm c (n - 1) P gf ba lb encs S xs W)
    (I : List α → World → Prop) (Ix : Code → List α → World → Prop) (hI : Abd w.heap.size (w.heap.size + (c + 2)) I) (hIx : ∀ j, Abd w.heap.size (w.heap.size + (c + 2)) (Ix j)) (hgm : gm < w.heap.size) (hI2 : Abd gm (gm + 1) I) (hIx2 : ∀ j, Abd gm (gm + 1) (Ix j)) (h0 : I [] w)
    (hround : ∀ (l : Nat) (pre : List α) (x : α) (rest : List α) (W : World), xs = pre ++ x :: rest → I pre W → w.heap.size + (c + 2) ≤ W.heap.size →
      assign.wpIn (Fence.wide.inRound l) (n - 1 - 1) P (Exit.then (fun a₁ w₁ => Kps (fun k => S k ∨ w.heap.size ≤ k ∧ k < w.heap.size + (c + 2)) W w₁ ∧
        ∀ w₂, Chg (w.heap.size + 1) (w.heap.size + 2) w₁ w₂ → w₂.heap.size = w₁.heap.size → body.wpIn (Fence.wide.inRound l) (n - 1 - 1) P (rndPost (fun k => S k ∨ w.heap.size ≤ k ∧ k < w.heap.size + (c + 2)) I Ix (pre ++ [x]) w₂) a₁ w₂) (fun _ _ _ => False))
        { tmps := (ps.zip (encs x)).foldl (fun t (p, v) => t.setIfInBounds p v) a.tmps, defers := [] } W)
    (hS : ∀ k, S k → k < w.heap.size)
    (hdone : ∀ W, I xs W → W.heap[w.heap.size]? = some (.deferred (some [])) → Q .normal { a with defers := { target := .collected w.heap.size, args := #[] } :: a.defers } W)
    (hstop : ∀ (j : Code) (pre rest : List α) (W : World), xs = pre ++ rest → Ix j pre W → W.heap[w.heap.size]? = some (.deferred (some [])) → j.wpIn Fence.wide n P Q { a with defers := { target := .collected w.heap.size, args := #[] } :: a.defers } W) :
    (Code.rangeFunc g ps assign body).wpIn Fence.wide n P Q a w := by
  refine wpIn_rangeFunc ?_
  intro fn hfn
  obtain ⟨rec, hrec⟩ : ∃ rec : LoopState → Option Code → Loop, rec = fun st pe => { state := st, pending := pe, fn, tmps := a.tmps, params := ps, assign, body, defers := w.heap.size } := ⟨_, rfl⟩
  obtain ⟨W1, hW1⟩ : ∃ W1, (w.alloc (.deferred (some []))).alloc (.loop (rec .ready none)) = W1 := ⟨_, rfl⟩
  have hL1 : W1.heap[w.heap.size + 1]? = some (.loop (rec .ready none)) := by
    rw [← hW1]; have := World.alloc_heap_new (w.alloc (.deferred (some []))) (.loop (rec .ready none)); rwa [World.size_alloc] at this
  have hK1 : W1.heap[w.heap.size]? = some (.deferred (some [])) := by
    rw [← hW1]; exact (Below.heap_alloc _ _ _ (by simp)).trans (World.alloc_heap_new w _)
  have hI1 : I [] W1 := by rw [← hW1]; exact hI _ _ _ h0 ((Chg.alloc _ _).trans (Chg.alloc _ _))
  have hb1 : Below w.heap.size w W1 := by
    rw [← hW1]; exact ((Below.refl _ w).alloc (Nat.le_refl _) _).alloc (by simp) _
  have hs1 : W1.heap.size = w.heap.size + 2 := by rw [← hW1]; simp
  refine ⟨w.heap.size + 1, [{ target := .collected w.heap.size, args := #[] }], W1, { target := .fn (.func gf) lb, args := ba ++ #[.func (.yield (w.heap.size + 1)) #[] #[]] }, W1, gf,
    ba ++ #[.func (.yield (w.heap.size + 1)) #[] #[]] ++ lb, W1, ?_, ?_, ?_, ?_, fun _ => h1, ?_⟩
  · rw [← hW1, hrec]; exact run_enterLoop_outer _ _ _ _ _
  · simp only [resolve, hg]
    simp [go_sem]
  · intro f' hf'; trivial
  · simp [invoke, go_sem, eg]
  · refine (hseq W1 hs1 hb1 (w.heap.size + 1)
      (fun pre W => I pre W ∧ W.heap[w.heap.size + 1]? = some (.loop (rec .ready none)) ∧ W.heap[w.heap.size]? = some (.deferred (some [])))
      (fun pre W => ∃ j, Ix j pre W ∧ W.heap[w.heap.size + 1]? = some (.loop (rec .done (some j))) ∧ W.heap[w.heap.size]? = some (.deferred (some [])))
      (fun s A B hs hc => by
        rw [hs1] at hc
        have l1 := (Array.getElem?_eq_some_iff.1 hs.2.1).1
        exact ⟨hI _ _ _ hs.1 (hc.wide (by omega) (by omega)), (hc.block _ l1 (.inl (by omega))).trans hs.2.1, (hc.block _ (by omega) (.inl (by omega))).trans hs.2.2⟩)
      (fun s A B hs hc => by
        obtain ⟨j, hs⟩ := hs
        rw [hs1] at hc
        have l1 := (Array.getElem?_eq_some_iff.1 hs.2.1).1
        exact ⟨j, hIx _ _ _ _ hs.1 (hc.wide (by omega) (by omega)), (hc.block _ l1 (.inl (by omega))).trans hs.2.1, (hc.block _ (by omega) (.inl (by omega))).trans hs.2.2⟩)
      (fun s A B hs hc => by
        have l1 := (Array.getElem?_eq_some_iff.1 hs.2.1).1
        exact ⟨hI2 _ _ _ hs.1 hc, (hc.block _ l1 (.inr (by omega))).trans hs.2.1, (hc.block _ (by omega) (.inr (by omega))).trans hs.2.2⟩)
      (fun s A B hs hc => by
        obtain ⟨j, hs⟩ := hs
        have l1 := (Array.getElem?_eq_some_iff.1 hs.2.1).1
        exact ⟨j, hIx2 _ _ _ _ hs.1 hc, (hc.block _ l1 (.inr (by omega))).trans hs.2.1, (hc.block _ (by omega) (.inr (by omega))).trans hs.2.2⟩)
      ?_ ⟨hI1, hL1, hK1⟩).mono ?_
    · rintro pre x rest W hxs ⟨hi, hl, hk⟩ hsz
      rw [hs1] at hsz ⊢
      have hy := run_yield (P := P) (args := encs x) hl (by rw [hrec]; exact hps x)
      rw [hrec] at hy
      refine ⟨fn, _, assign, body, hy, roundIn_of_wpIn trivial ?_⟩
      clear hy
      refine wpIn_mono (hround _ pre x rest W hxs hi (by omega)) ?_
      rintro e a1 W2 hp
      cases e with
      | normal =>
        obtain ⟨hk2, hb⟩ := hp
        have hl2 := (hk2.block _ (by omega) (.inr ⟨by omega, by omega⟩)).trans hl
        have hd2 := (hk2.block _ (by omega) (.inr ⟨by omega, by omega⟩)).trans hk
        have hz2 := hk2.size
        refine ⟨_, run_beginRound hl2 (by rw [hrec]), ?_⟩
        have hc3 : Chg (w.heap.size + 1) (w.heap.size + 2) W2 (W2.putObj (w.heap.size + 1) (.loop { rec .ready none with state := .busy })) := Chg.obj _ _ (Nat.le_refl _) (by omega)
        have hl3 : (W2.putObj (w.heap.size + 1) (.loop { rec .ready none with state := .busy })).heap[w.heap.size + 1]? = some (.loop { rec .ready none with state := .busy }) := World.putObj_heap_same (by omega)
        have hd3 : (W2.putObj (w.heap.size + 1) (.loop { rec .ready none with state := .busy })).heap[w.heap.size]? = some (.deferred (some [])) := (World.putObj_heap_other (by omega)).trans hd2
        refine wpIn_mono (hb _ hc3 (by simp)) ?_
        obtain ⟨W3, hW3⟩ : ∃ W3, W3 = W2.putObj (w.heap.size + 1) (.loop { rec .ready none with state := .busy }) := ⟨_, rfl⟩
        rw [← hW3] at hl3 hd3 hc3 ⊢
        have hz3 := hc3.size
        have fin : ∀ (jump : Option Code) (W4 : World), Kps (fun k => S k ∨ w.heap.size ≤ k ∧ k < w.heap.size + (c + 2)) W3 W4 →
            (Instr.endRound (w.heap.size + 1) jump).run P W4 = .ok (.bool jump.isNone) (W4.putObj (w.heap.size + 1) (.loop (rec (if jump.isNone then .ready else .done) jump))) ∧
            (W4.putObj (w.heap.size + 1) (.loop (rec (if jump.isNone then .ready else .done) jump))).heap[w.heap.size + 1]? = some (.loop (rec (if jump.isNone then .ready else .done) jump)) ∧
            (W4.putObj (w.heap.size + 1) (.loop (rec (if jump.isNone then .ready else .done) jump))).heap[w.heap.size]? = some (.deferred (some [])) := fun jump W4 hk4 => by
          have hl4 := (hk4.block _ (by omega) (.inr ⟨by omega, by omega⟩)).trans hl3
          have hd4 := (hk4.block _ (by omega) (.inr ⟨by omega, by omega⟩)).trans hd3
          have hz4 := hk4.size
          have := run_endRound (P := P) jump hl4
          rw [hrec] at this ⊢
          exact ⟨this, World.putObj_heap_same (by omega), (World.putObj_heap_other (by omega)).trans hd4⟩
        have hkk : ∀ (o : Obj) (W4 : World), Kps (fun k => S k ∨ w.heap.size ≤ k ∧ k < w.heap.size + (c + 2)) W3 W4 → Kps (fun k => S k ∨ w.heap.size + 2 ≤ k ∧ k < w.heap.size + 2 + c) W (W4.putObj (w.heap.size + 1) o) := fun o W4 hk4 => by
          refine ⟨by have := hk4.size; simp; omega, fun k hk hs => ?_⟩
          have hne : k ≠ w.heap.size + 1 := by
            rcases hs with hs | hs
            · have := hS k hs; omega
            · omega
          have hs' : S k ∨ w.heap.size ≤ k ∧ k < w.heap.size + (c + 2) := by
            rcases hs with hs | hs
            · exact .inl hs
            · exact .inr ⟨by omega, by omega⟩
          rw [World.putObj_heap_other hne, hk4.block k (by omega) hs', hW3, World.putObj_heap_other hne]
          exact hk2.block k hk hs'
        rintro e a3 W4 hp
        cases e with
        | normal =>
          obtain ⟨hk4, hi4⟩ := hp
          obtain ⟨hr, hl4, hd4⟩ := fin none W4 hk4
          exact ⟨_, _, hr, .inl ⟨rfl, ⟨hI _ _ _ hi4 (Chg.obj _ _ (by omega) (by omega)), hl4, hd4⟩, hkk _ _ hk4⟩⟩
        | ret =>
          obtain ⟨hk4, hi4⟩ := hp
          obtain ⟨hr, hl4, hd4⟩ := fin (some .ret) W4 hk4
          exact ⟨_, _, hr, .inr ⟨rfl, _, hIx _ _ _ _ hi4 (Chg.obj _ _ (by omega) (by omega)), hl4, hd4⟩⟩
        | exit id =>
          obtain ⟨hk4, hi4⟩ := hp
          obtain ⟨hr, hl4, hd4⟩ := fin (some (.exit id)) W4 hk4
          exact ⟨_, _, hr, .inr ⟨rfl, _, hIx _ _ _ _ hi4 (Chg.obj _ _ (by omega) (by omega)), hl4, hd4⟩⟩
        | goto t => exact hp.elim
        | panic ch => exact hp.elim
        | outgrown => exact hp.elim
      | exit id => exact hp.elim
      | goto t => exact hp.elim
      | ret => exact hp.elim
      | panic ch => exact hp.elim
      | outgrown => exact hp.elim
    · rintro e W2 ⟨⟨v, rfl⟩, (⟨hi, hl, hk⟩ | ⟨pre, rest, hxs, j, hi, hl, hk⟩)⟩
      · exact ⟨none, _, by have := run_endLoop (P := P) hl (by rw [hrec]; simp); rw [hrec] at this; exact this, hdone _ (hI _ _ _ hi (Chg.obj _ _ (by omega) (by omega))) ((World.putObj_heap_other (by omega)).trans hk)⟩
      · exact ⟨some j, _, by have := run_endLoop (P := P) hl (by rw [hrec]; simp); rw [hrec] at this; exact this, hstop j pre rest _ hxs (hIx _ _ _ _ hi (Chg.obj _ _ (by omega) (by omega))) ((World.putObj_heap_other (by omega)).trans hk)⟩
end Go.Proofs.YthdafpbmmfelpaaGreatDoor
namespace Go.Proofs.YthdafpbmmfelpaaGreatDoor
open Go.ChangeShapes Go.WideShapes Go.ChangeAt Go.RowKit
set_option linter.unusedVariables false
set_option linter.unusedSimpArgs false

section
variable {P : Program} {ops : Array Oper} {Q : Exit → Act → World → Prop} {md : Region.Mode} {S : World → Prop} {n : Nat}
theorem upon_wide {o : Oper} {a : Act} {next : Act → World → Prop} : ∀ r, o.upon P a next Q r → o.uponIn Fence.wide n P a next Q r := by
  intro r h
  cases r with
  | ok x w =>
    cases x with
    | enter f args => exact ⟨fun q => (by cases q), callsIn_wide.2 h⟩
    | row row args => exact ⟨fun q => (by cases q), fun c cs _ => let ⟨v, w', r, s⟩ := h c cs; ⟨v, w', r, stepsIn_wide.2 s⟩⟩
    | value v => exact h
    | skip => exact h
    | defer d => exact h
    | round => exact h.elim
    | _ => exact h.elim
  | halt x w =>
    cases x with
    | panic v => exact h
    | _ => exact h.elim
theorem wpOp_wide (hd : ∀ (i : Nat) (o : Oper), ops[i]? = some o → ∀ c, o.op ≠ .defer c) (hlo : ¬ LetsOut Q) {i : Nat} {K K' : Act → World → Prop} (hK : ∀ a w, K a w → K' a w) {a : Act} {w : World} (h : wpOp P ops Q i K a w) : wpOpIn Fence.wide n P ops Q i K' a w := by
  unfold wpOp at h
  unfold wpOpIn
  cases ho : ops[i]? with
  | none => simp only [ho] at h; exact hK _ _ h
  | some o =>
    simp only [ho] at h ⊢
    split at h
    · rename_i hw
      rw [if_pos hw]
      rcases h with h | ⟨_, h⟩
      · refine Oper.wpIn_mono (K := K) hK ?_
        refine ⟨fun f _ => trivial, ?_⟩
        rw [Oper.semAt_plain _ _ _ (hd i o ho)]
        exact upon_wide _ h
      · exact absurd h hlo
    · rename_i hw
      rw [if_neg hw]
      exact ⟨fun f _ => trivial, hK _ _ h⟩
theorem wpAny_wide (hd : ∀ (i : Nat) (o : Oper), ops[i]? = some o → ∀ c, o.op ≠ .defer c) (hlo : ¬ LetsOut Q) : ∀ (fuel : Nat) (listed : Array Bool) (a : Act) (w : World), wpAny P md ops Q fuel listed a w → wpAnyIn Fence.wide n P md ops Q fuel listed a w
  | 0, _, _, _, h => h
  | fuel + 1, listed, a, w, h => ⟨h.1, fun i hi => wpOp_wide hd hlo (fun a w q => wpAny_wide hd hlo fuel _ a w q) (h.2 i hi)⟩
theorem wpIn_region_planW {d id : Nat} {a : Act} {w : World} {l : List Oper} (n : Nat) (p : List (Nat × Bool)) (S : World → Prop) (hm : P.follows .mixedOrders = true)
    (hB : (Region.noSelect l.toArray && Region.sinkB .any l.toArray n && Region.chainB .any l.toArray n && decide (n < l.length) && decide (p.length = n) && planB .any l.toArray n p (Array.replicate l.toArray.size false)) = true)
    (hd : noDefer l = true) (hlo : ¬ LetsOut Q)
    (hQ : ∀ c (a : Act) d v w, Q (.panic c) (a.put d v) w → Q (.panic c) a w) (hS : S w.drew)
    (h : wpPlan P l.toArray Q S (l.drop n) (p.filterMap fun x => (l[x.1]?).map fun o => (o, x.2)) a w.drew) : (Code.region id l.toArray true).wpIn Fence.wide d P Q a w := by
  simp only [Bool.and_eq_true, decide_eq_true_eq] at hB
  obtain ⟨⟨⟨⟨⟨hsel, hs⟩, hc⟩, hn⟩, hp⟩, hpl⟩ := hB
  have inv0 : HeadInv .any l.toArray n (Array.replicate l.toArray.size false) :=
    ⟨by simp, fun j oj _ hl => (by rw [getD_replicate_false] at hl; cases hl), fun t _ ht => getD_in (by simpa using ht) (getD_replicate_false _ _)⟩
  have H := wpAnyT_of_plan (md := .any) hsel hQ hs hc hn p _ a w.drew inv0 hpl hS h
  have hlen : p.length + (l.drop n).length = l.toArray.size := by simp; omega
  rw [hlen] at H
  refine wpIn_region_any hm (wpAny_wide (fun i o ho c e => ?_) hlo _ _ _ _ (wpAny_of_T _ _ _ _ H))
  have hm : o ∈ l := List.mem_of_getElem? (by simpa using ho)
  have := List.all_eq_true.1 hd o hm
  rw [e] at this; cases this
end
end Go.Proofs.YthdafpbmmfelpaaGreatDoor
namespace Go.Proofs.YthdafpbmmfelpaaGreatDoor
open Go.ChangeShapes Go.WideShapes Go.ChangeAt Go.RowKit Go.Shelf Dec
attribute [local go_sem] Oper.semAt_some
set_option linter.unusedVariables false
set_option linter.unusedSimpArgs false


def encL (x : List UInt8) : Array Value := #[.string ⟨x.toArray⟩]
theorem lines_any (s : ByteArray) (w : World) : Calls Tryz.prog 47 #[.string s] w fun e w' => e = .returned (.func (.func 77) #[] #[.pointer (some ⟨w.heap.size, 0, none⟩)]) ∧ w' = w.alloc (.cells #[.string s] 9) := by
  go_enter Tryz.func47, Tryz.ntmps47
  go_wp2
  go_ret
  exact ⟨rfl, rfl⟩
/-- The next line, and what is left. -/
theorem lnz_next {l : List UInt8} (hne : l ≠ []) : (Lib.indexByte l 10 = -1 ∧ lnz l = [l]) ∨ ∃ k : Nat, k < l.length ∧ Lib.indexByte l 10 = k ∧ lnz l = l.take (k + 1) :: lnz (l.drop (k + 1)) := by
  by_cases h : Lib.indexByte l 10 = -1
  · refine .inl ⟨h, lnz_last (fun c hc e => ?_) hne⟩
    obtain ⟨j, hj, e2⟩ := List.getElem_of_mem hc
    exact Lib.indexByte_none h j (by rw [List.getElem?_eq_getElem hj, e2, e])
  · have hge := Lib.indexByte_ge l 10
    obtain ⟨k, hk⟩ : ∃ k : Nat, Lib.indexByte l 10 = k := ⟨(Lib.indexByte l 10).toNat, by omega⟩
    obtain ⟨ha, hb⟩ := Lib.indexByte_some hk
    have hl : k < l.length := by
      rcases Nat.lt_or_ge k l.length with h | h
      · exact h
      · rw [List.getElem?_eq_none h] at ha; cases ha
    refine .inr ⟨k, hl, hk, ?_⟩
    have e3 : l[k] = 10 := by
      rw [List.getElem?_eq_getElem hl] at ha
      simpa using ha
    have e2 : l = l.take k ++ 10 :: l.drop (k + 1) := by
      have : l.drop k = 10 :: l.drop (k + 1) := by rw [List.drop_eq_getElem_cons hl, e3]
      rw [← this, List.take_append_drop]
    have e4 : l.take (k + 1) = l.take k ++ [10] := by rw [List.take_succ_eq_append_getElem hl, e3]
    rw [e4]
    conv => lhs; rw [e2]
    rw [lnz_hit]
    intro c hc e
    obtain ⟨j, hj, e4⟩ := List.getElem_of_mem hc
    have hji : j < k := by simp at hj; omega
    refine hb j hji ?_
    rw [List.getElem_take] at e4
    rw [List.getElem?_eq_getElem (by omega), e4, e]
/-- The invariant of the iterator's loop. -/
structure Lgo (J : List (List UInt8) → World → Prop) (s : List UInt8) (g N : Nat) (w : World) : Prop where
  ex : ∃ (pre : List (List UInt8)) (b : ByteArray), lnz s = pre ++ lnz b.data.toList ∧ b.size ≤ 262144 ∧ Has w g 9 #[.string b] ∧ J pre w
  sz : N ≤ w.heap.size
def cnat (v : Option Value) : Nat := match v with | some (.string b) => b.size | _ => 0
theorem chg_dr (g : Nat) (W : World) : Chg g (g + 1) W W.drew := Chg.drew W 1
structure StopR (p : Prop) : Prop where
  out : p
set_option maxHeartbeats 8000000 in
set_option maxRecDepth 100000 in
theorem lines_yields (n g : Nat) (s : ByteArray) (hs : s.size ≤ 262144) (S : Nat → Prop) (W : World) (hg : Has W g 9 #[.string s]) (hS : S g) :
    YieldsM g 0 n Tryz.prog 77 #[] #[.pointer (some ⟨g, 0, none⟩)] encL S (lnz s.data.toList) W := by
  intro l J Jx _ _ hJ hJx hY h0
  have HYh := Lib.hid hY
  have HJ := Lib.hid hJ
  clear hY hJ hJx
  refine callsIn_of_wp Tryz.func77 rfl trivial ?_
  simp only [Tryz.ntmps77, List.size_toArray, List.length_cons, List.length_nil, Nat.reduceAdd, Nat.reduceSub, Array.replicate_succ, Array.replicate_zero, List.push_toArray, List.append_toArray, List.nil_append, List.cons_append]
  have hf78 : Fence.wide.fn 78 := trivial
  have h78 := fun (b : ByteArray) (W : World) => callsIn_wide (n := n - 1) |>.2 (Tryz.strings_IndexByte b 10 W)
  gi_wp2
  gi_loopw [] (fun wr => Lgo J s.data.toList g W.heap.size wr) (fun wr => cnat (wr.cell? ⟨g, 0, none⟩))
  case atStart => exact ⟨⟨[], s, rfl, hs, hg, h0⟩, Nat.le_refl _⟩
  case round =>
    clear hg h0 hs
    obtain ⟨⟨pre, b, hM, hb, hH, hJp⟩, hsz⟩ := hrel
    have R : wr.cell? ⟨g, 0, none⟩ = some (.string b) := hH.read 0
    have f := hH.open_ 0
    by_cases hz : b.size = 0
    · have g1 : decide ((b.size : Int) > 0) = false := by simp [hz]
      have hb0 : b.data.toList = [] := by
        rw [← List.length_eq_zero_iff]; simpa using hz
      have HM := Lib.hid hM
      have HJp := Lib.hid hJp
      clear hM hJp hH f
      gi_wp2
      go_end0
      refine ⟨⟨_, rfl⟩, .inl ?_⟩
      rw [HM.out, hb0]
      simpa [lnz] using HJp.out
    · have g1 : decide ((b.size : Int) > 0) = true := by simp; omega
      have hne : b.data.toList ≠ [] := by
        intro e
        have := congrArg List.length e
        simp at this
        exact hz (by simpa using this)
      have HM := Lib.hid hM
      have HJp := Lib.hid hJp
      clear hM hJp
      rcases lnz_next hne with ⟨hi, hln⟩ | ⟨k, hk, hi, hln⟩
      · have Hln := Lib.hid hln
        clear hln
        have HH := Lib.hid hH
        clear hH
        gi_upto_region 5 with (refine ⟨fun h => (by cases h), (h78 _ _).mono ?_⟩; rintro X wq ⟨rfl, rfl⟩; rw [show (Int.toNat 10).toUInt8 = 10 from rfl, hi])
        have eb : encL b.data.toList = #[.string b] := by simp [encL]
        have H2 : Has (wq.setCell ⟨g, 0, none⟩ (.string ⟨#[]⟩)) g 9 #[.string ⟨#[]⟩] := HH.out.put_ 0 _
        have hY := HYh.out pre b.data.toList [] _ (by rw [HM.out, Hln.out]) (HJ.out _ _ _ HJp.out (Chg.put wq ⟨g, 0, none⟩ (.string ⟨#[]⟩) (Nat.le_refl _) (Nat.lt_succ_self _))) (by simp [World.setCell]; omega)
        rw [eb] at hY
        obtain ⟨fn, tmps, assign, body, hy, hR⟩ := hY
        have HSz := Lib.hid hsz
        have H2h := Lib.hid H2
        clear hsz H2
        gi_wp2
        refine ⟨fun h => (by cases h), hR.mono ?_⟩
        rintro e W3 (⟨rfl, hJ3, hk3⟩ | ⟨rfl, hJx3⟩)
        · have H3 : Has W3 g 9 #[.string ⟨#[]⟩] := by unfold Has; rw [hk3.block g H2h.out.size_ (.inl hS)]; exact H2h.out
          have R3 : W3.cell? ⟨g, 0, none⟩ = some (.string ⟨#[]⟩) := H3.read 0
          have hz3 := hk3.size
          have H3h := Lib.hid (And.intro H3 (And.intro hJ3 hz3))
          clear H3 hJ3 hz3 hk3 hR hy
          gi_wp2
          go_roundw
          case rel => exact ⟨⟨pre ++ [b.data.toList], ⟨#[]⟩, by rw [HM.out, Hln.out]; simp [lnz], by decide, H3h.out.1, H3h.out.2.1⟩, by have := H3h.out.2.2; have := HSz.out; simp [World.setCell] at *; omega⟩
          case measure => rw [R, R3]; have e0 : (⟨#[]⟩ : ByteArray).size = 0 := rfl; simp only [cnat, e0]; omega
        · gi_wp2
          refine bodyPost_ret (results_none rfl _ _ _) rfl ?_
          exact ⟨⟨_, rfl⟩, .inr ⟨_, [], by rw [HM.out, Hln.out]; simp, hJx3⟩⟩
      · have hkb : k < b.size := by simpa using hk
        have Hln := Lib.hid hln
        clear hln hk
        have HH := Lib.hid hH
        clear hH
        have W1 : IntKind.i64.wrap ((k : Int) + 1) = ((k + 1 : Nat) : Int) := by rw [IntWalk.i64_in _ (by omega)]; omega
        have g2 : decide ((k : Int) ≥ 0) = true := by simp
        have q1 : (0 : Int) ≤ ((k + 1 : Nat) : Int) := by omega
        have q2 : ((k + 1 : Nat) : Int) ≤ (b.size : Int) := by omega
        gi_upto_region 4 with (refine ⟨fun h => (by cases h), (h78 _ _).mono ?_⟩; rintro X wq ⟨rfl, rfl⟩; rw [show (Int.toNat 10).toUInt8 = 10 from rfl, hi])
        have hdb : (b.extract (k + 1) b.size).data.toList = b.data.toList.drop (k + 1) := by rw [ext_list, List.take_of_length_le (by simp)]
        have hdt : encL (b.data.toList.take (k + 1)) = #[.string (b.extract 0 (k + 1))] := by
          have e : (⟨(b.data.toList.take (k + 1)).toArray⟩ : ByteArray) = b.extract 0 (k + 1) := ByteArray.ext (by rw [← Array.toList_inj, ext_list]; simp)
          unfold encL
          rw [e]
        refine wpIn_region_planW 9 [(0, true), (1, true), (2, true), (3, true), (4, true), (5, true), (6, true), (7, true), (8, true)] (fun W' => W'.cell? ⟨g, 0, none⟩ = some (.string b)) (by kernel_rfl) (by kernel_rfl) (by kernel_rfl) (by rintro ⟨a, w, h⟩; obtain ⟨⟨v, hv⟩, -⟩ := h; cases hv) (fun _ _ d _ _ h => by cases d <;> exact h) R ?_
        simp only [List.filterMap_cons, List.filterMap_nil, List.getElem?_cons_zero, List.getElem?_cons_succ, Option.map_some, List.drop_succ_cons, List.drop_zero]
        iterate 3 (first | (refine wpPlan_still (v := ?_) (Or.inl ⟨by rfl, ?_⟩) ?_; rotate_left; (focus (intro W hW; (try dsimp only at hW); go_split_ands; go_simp; try with_reducible rfl)); try simp only [Act.put, List.setIfInBounds_toArray, List.set_cons_zero, List.set_cons_succ]) | (refine wpPlan_still (Or.inr ⟨by rfl, rfl⟩) ?_; try simp only [Act.put, List.setIfInBounds_toArray, List.set_cons_zero, List.set_cons_succ]))
        (refine wpPlan_still (v := ?_) (Or.inl ⟨by rfl, ?_⟩) ?_; rotate_left; (focus (intro W hW; (try dsimp only at hW); go_split_ands; go_simp; rw [if_pos (by omega)])); try simp only [Act.put, List.setIfInBounds_toArray, List.set_cons_zero, List.set_cons_succ])
        iterate 3 (first | (refine wpPlan_still (v := ?_) (Or.inl ⟨by rfl, ?_⟩) ?_; rotate_left; (focus (intro W hW; (try dsimp only at hW); go_split_ands; go_simp; try with_reducible rfl)); try simp only [Act.put, List.setIfInBounds_toArray, List.set_cons_zero, List.set_cons_succ]) | (refine wpPlan_still (Or.inr ⟨by rfl, rfl⟩) ?_; try simp only [Act.put, List.setIfInBounds_toArray, List.set_cons_zero, List.set_cons_succ]))
        (refine wpPlan_still (v := ?_) (Or.inl ⟨by rfl, ?_⟩) ?_; rotate_left; (focus (intro W hW; (try dsimp only at hW); go_split_ands; go_simp; rw [if_pos (by omega)])); try simp only [Act.put, List.setIfInBounds_toArray, List.set_cons_zero, List.set_cons_succ])
        iterate 1 (first | (refine wpPlan_still (v := ?_) (Or.inl ⟨by rfl, ?_⟩) ?_; rotate_left; (focus (intro W hW; (try dsimp only at hW); go_split_ands; go_simp; try with_reducible rfl)); try simp only [Act.put, List.setIfInBounds_toArray, List.set_cons_zero, List.set_cons_succ]) | (refine wpPlan_still (Or.inr ⟨by rfl, rfl⟩) ?_; try simp only [Act.put, List.setIfInBounds_toArray, List.set_cons_zero, List.set_cons_succ]))
        refine wpPlan_end ?_
        have Hd := HH.out.drew_
        have fd := Hd.open_ 0
        have Rd : wq.drew.cell? ⟨g, 0, none⟩ = some (.string b) := Hd.read 0
        have Jd := HJ.out _ _ _ HJp.out (chg_dr g wq)
        have hszd : W.heap.size ≤ wq.drew.heap.size := hsz
        have H2 : Has (wq.drew.setCell ⟨g, 0, none⟩ (.string (b.extract (k + 1) b.size))) g 9 #[.string (b.extract (k + 1) b.size)] := Hd.put_ 0 _
        have hb2 : (b.extract (k + 1) b.size).size ≤ 262144 ∧ (b.extract (k + 1) b.size).size < b.size := by rw [ByteArray.size_extract]; omega
        have hY := HYh.out pre (b.data.toList.take (k + 1)) (lnz (b.data.toList.drop (k + 1))) _ (by rw [HM.out, Hln.out]) (HJ.out _ _ _ Jd (Chg.put wq.drew ⟨g, 0, none⟩ (.string (b.extract (k + 1) b.size)) (Nat.le_refl _) (Nat.lt_succ_self _))) (by simp [World.setCell] at hszd ⊢; omega)
        rw [hdt] at hY
        generalize b.extract (k + 1) b.size = b2 at *
        generalize b.extract 0 (k + 1) = b1 at *
        obtain ⟨fn, tmps, assign, body, hy, hR⟩ := hY
        have HSz := Lib.hid hszd
        have H2h := Lib.hid H2
        clear hsz H2 hszd Hd Jd f
        generalize wq.drew = wd at *
        go_wp2
        gi_wp2
        refine ⟨fun h => (by cases h), hR.mono ?_⟩
        rintro e W3 (⟨rfl, hJ3, hk3⟩ | ⟨rfl, hJx3⟩)
        · have H3 : Has W3 g 9 #[.string b2] := by unfold Has; rw [hk3.block g H2h.out.size_ (.inl hS)]; exact H2h.out
          have R3 : W3.cell? ⟨g, 0, none⟩ = some (.string b2) := H3.read 0
          have hz3 := hk3.size
          have H3h := Lib.hid (And.intro H3 (And.intro hJ3 hz3))
          clear H3 hJ3 hz3 hk3 hR hy
          gi_wp2
          go_roundw
          case rel => exact ⟨⟨_, b2, by rw [HM.out, Hln.out, hdb, List.append_assoc]; rfl, hb2.1, H3h.out.1, H3h.out.2.1⟩, by have := H3h.out.2.2; have := HSz.out; simp [World.setCell] at *; omega⟩
          case measure => rw [R, R3]; exact hb2.2
        · gi_wp2
          refine bodyPost_ret (results_none rfl _ _ _) rfl ?_
          exact ⟨⟨_, rfl⟩, .inr ⟨_, _, by rw [HM.out, Hln.out, List.append_assoc]; rfl, hJx3⟩⟩
end Go.Proofs.YthdafpbmmfelpaaGreatDoor
namespace Go.Proofs.YthdafpbmmfelpaaGreatDoor
open Go.ChangeShapes Go.WideShapes Go.ChangeAt Go.RowKit Go.Shelf Dec
attribute [local go_sem] Oper.semAt_some
set_option linter.unusedVariables false
set_option linter.unusedSimpArgs false


/-- Whether a line has its form; and its bar. -/
def lnP (x : List UInt8) : Bool := lnB ⟨x.toArray⟩
def mkB (x : List UInt8) : Bar :=
  ⟨(lnW ⟨x.toArray⟩).getD 0 ⟨#[]⟩, wrdV 1 ((lnW ⟨x.toArray⟩).getD 1 ⟨#[]⟩), wrdV 2 ((lnW ⟨x.toArray⟩).getD 2 ⟨#[]⟩), wrdV 3 ((lnW ⟨x.toArray⟩).getD 3 ⟨#[]⟩), none, (vals (lnW ⟨x.toArray⟩) (lnW ⟨x.toArray⟩).length).drop 4, 0⟩
theorem cell_chg {lo hi : Nat} {A B : World} (hc : Chg lo hi A B) {p : Addr} {u : Value} (h : A.cell? p = some u) (hp : p.block < lo ∨ hi ≤ p.block) : B.cell? p = some u := by
  have hl := lt_of_cell h
  unfold World.cell? at h ⊢
  rw [hc.block _ hl hp]; exact h
theorem rdx_chg {lo hi b : Nat} {A B : World} {v : Value} {zs : List Int} (h : Rdx b A v zs) (hc : Chg lo hi A B) (ha : ∀ g, g < hi → Rdx g A v zs) : Rdx b B v zs := by
  obtain ⟨q, c, e, k⟩ := h
  refine ⟨q, c, e, fun j hj => ?_⟩
  obtain ⟨a, e2, hn, hcell⟩ := k j hj
  refine ⟨a, e2, hn, cell_chg hc hcell (.inr ?_)⟩
  rw [add_block]
  rcases Nat.lt_or_ge a.block hi with hl | hl
  · obtain ⟨q', c', e', k'⟩ := ha a.block hl
    obtain ⟨a', e3, hn', -⟩ := k' j hj
    rw [e] at e'
    simp only [Value.slice.injEq] at e'
    rw [← e'.1, e2] at e3
    cases e3
    exact absurd rfl hn'
  · exact hl
/-- Between two lines: the results (from N on), the list, the position. -/
structure Pst (w : World) (N : Nat) (pre : List (List UInt8)) (W : World) : Prop where
  c0 : Has W N 22 #[.slice none 0 0]
  c1 : Has W (N + 1) 37 #[.int .i64 0, .int .i64 0]
  c2 : Has W (N + 2) 25 #[.int .i64 0]
  c4 : Has W (N + 4) 37 #[.int .i64 ((pre.length + 1 : Nat) : Int), .int .i64 1]
  ex : ∃ v l, Has W (N + 3) 22 #[v] ∧ Own bc 60 5 (N + 8) W v l ∧ (∀ x ∈ l, x.Ok W ∧ ∀ b, (b < N + 8 ∨ v.ownBlock = some b) → Rdx b W x.sv x.ds) ∧ l.map nrm = pre.map mkB
  gd : ∀ x ∈ pre, lnP x = true
  hb : Below N w W
theorem Pst.abd {w : World} {N lo hi : Nat} (h1 : N + 4 < lo) (h2 : hi ≤ N + 8) : Abd lo hi (Pst w N) := fun pre W W' C hc => by
  obtain ⟨v, l, c, o, x, e⟩ := C.ex
  have hs := C.hb.size
  refine ⟨C.c0.chg hc (.inl (by omega)), C.c1.chg hc (.inl (by omega)), C.c2.chg hc (.inl (by omega)), C.c4.chg hc (.inl (by omega)), ⟨v, l, c.chg hc (.inl (by omega)), own_kept o fun k hk hB => hc.block k hk (.inr (by omega)), fun y hy => ?_, e⟩, C.gd, C.hb.trans (hc.below (by omega) (by have := C.c0.size_; omega))⟩
  obtain ⟨h3, h4⟩ := x y hy
  have key := fun b hb => rdx_chg (h4 b hb) hc fun g hg => h4 g (.inl (by omega))
  exact ⟨⟨h3.nm, h3.ln, (key 0 (.inl (by omega))).rdz⟩, key⟩
/-- At a line that has not its form. -/
structure Pex (w : World) (N : Nat) (j : Code) (pre : List (List UInt8)) (W : World) : Prop where
  jr : j = .ret
  c0 : Has W N 22 #[.slice none 0 0]
  c1 : Has W (N + 1) 37 #[.int .i64 (pre.length : Int), .int .i64 1]
  c2 : Has W (N + 2) 25 #[.int .i64 7]
  sh : ∃ p x, pre = p ++ [x] ∧ (∀ y ∈ p, lnP y = true) ∧ lnP x = false
  hb : Below N w W
theorem Pex.abd {w : World} {N lo hi : Nat} (j : Code) (h1 : N + 4 < lo) : Abd lo hi (Pex w N j) := fun pre W W' C hc =>
  ⟨C.jr, C.c0.chg hc (.inl (by omega)), C.c1.chg hc (.inl (by omega)), C.c2.chg hc (.inl (by omega)), C.sh, C.hb.trans (hc.below (by omega) (by have := C.c0.size_; omega))⟩
theorem laid5 (w : World) (a b c d e : Array Value) (t1 t2 t3 t4 t5 : TypeId) : Has (((((w.alloc (.cells a t1)).alloc (.cells b t2)).alloc (.cells c t3)).alloc (.cells d t4)).alloc (.cells e t5)) w.heap.size t1 a ∧ Has (((((w.alloc (.cells a t1)).alloc (.cells b t2)).alloc (.cells c t3)).alloc (.cells d t4)).alloc (.cells e t5)) (w.heap.size + 1) t2 b ∧ Has (((((w.alloc (.cells a t1)).alloc (.cells b t2)).alloc (.cells c t3)).alloc (.cells d t4)).alloc (.cells e t5)) (w.heap.size + 2) t3 c ∧ Has (((((w.alloc (.cells a t1)).alloc (.cells b t2)).alloc (.cells c t3)).alloc (.cells d t4)).alloc (.cells e t5)) (w.heap.size + 3) t4 d ∧ Has (((((w.alloc (.cells a t1)).alloc (.cells b t2)).alloc (.cells c t3)).alloc (.cells d t4)).alloc (.cells e t5)) (w.heap.size + 4) t5 e ∧ Below w.heap.size w (((((w.alloc (.cells a t1)).alloc (.cells b t2)).alloc (.cells c t3)).alloc (.cells d t4)).alloc (.cells e t5)) ∧ (((((w.alloc (.cells a t1)).alloc (.cells b t2)).alloc (.cells c t3)).alloc (.cells d t4)).alloc (.cells e t5)).heap.size = w.heap.size + 5 := by
  have h1 := Has.new_ w t1 a
  have h2 := Has.new_ (w.alloc (.cells a t1)) t2 b
  have h3 := Has.new_ ((w.alloc (.cells a t1)).alloc (.cells b t2)) t3 c
  have h4 := Has.new_ (((w.alloc (.cells a t1)).alloc (.cells b t2)).alloc (.cells c t3)) t4 d
  have h5 := Has.new_ ((((w.alloc (.cells a t1)).alloc (.cells b t2)).alloc (.cells c t3)).alloc (.cells d t4)) t5 e
  simp only [World.size_alloc, Nat.add_assoc, Nat.reduceAdd] at h2 h3 h4 h5
  exact ⟨(((h1.on (al1 _ _)).on (al1 _ _)).on (al1 _ _)).on (al1 _ _), ((h2.on (al1 _ _)).on (al1 _ _)).on (al1 _ _), (h3.on (al1 _ _)).on (al1 _ _), h4.on (al1 _ _), h5, al (al (al (al (al1 _ _) _) _) _) _, by simp⟩
theorem put4 {wq : World} {N : Nat} {a b c d : Value} (u0 u1 u2 u3 : Value) (h0 : Has wq N 22 #[a]) (h1 : Has wq (N + 1) 37 #[b, c]) (h2 : Has wq (N + 2) 25 #[d]) :
    Has ((((wq.setCell ⟨N, 0, none⟩ u0).setCell ⟨N + 1, 0, none⟩ u1).setCell ⟨N + 1, 1, none⟩ u2).setCell ⟨N + 2, 0, none⟩ u3) N 22 #[u0] ∧ Has ((((wq.setCell ⟨N, 0, none⟩ u0).setCell ⟨N + 1, 0, none⟩ u1).setCell ⟨N + 1, 1, none⟩ u2).setCell ⟨N + 2, 0, none⟩ u3) (N + 1) 37 #[u1, u2] ∧ Has ((((wq.setCell ⟨N, 0, none⟩ u0).setCell ⟨N + 1, 0, none⟩ u1).setCell ⟨N + 1, 1, none⟩ u2).setCell ⟨N + 2, 0, none⟩ u3) (N + 2) 25 #[u3] ∧ Chg N (N + 3) wq ((((wq.setCell ⟨N, 0, none⟩ u0).setCell ⟨N + 1, 0, none⟩ u1).setCell ⟨N + 1, 1, none⟩ u2).setCell ⟨N + 2, 0, none⟩ u3) := by
  refine ⟨(((h0.put_ 0 u0).apart_ (show N ≠ N + 1 by omega) _).apart_ (show N ≠ N + 1 by omega) _).apart_ (show N ≠ N + 2 by omega) _, (((h1.apart_ (show N + 1 ≠ N by omega) _).put_ 0 u1).put_ 1 u2).apart_ (show N + 1 ≠ N + 2 by omega) _, ?_, ?_⟩
  · exact (((h2.apart_ (show N + 2 ≠ N by omega) _).apart_ (show N + 2 ≠ N + 1 by omega) _).apart_ (show N + 2 ≠ N + 1 by omega) _).put_ 0 u3
  · exact (((Chg.put _ _ _ (by show N ≤ N; omega) (by show N < N + 3; omega)).trans (Chg.put _ _ _ (by show N ≤ N + 1; omega) (by show N + 1 < N + 3; omega))).trans (Chg.put _ _ _ (by show N ≤ N + 1; omega) (by show N + 1 < N + 3; omega))).trans (Chg.put _ _ _ (by show N ≤ N + 2; omega) (by show N + 2 < N + 3; omega))
/-- What Parse says. -/
structure Prs (s : ByteArray) (w : World) (e : Ending) (w' : World) : Prop where
  no : oks lnP (lnz s.data.toList) < (lnz s.data.toList).length → e = .returned (.tuple #[.slice none 0 0, .agg #[.int .i64 ((oks lnP (lnz s.data.toList) + 1 : Nat) : Int), .int .i64 1], .int .i64 7])
  bad : oks lnP (lnz s.data.toList) = (lnz s.data.toList).length → validL ((lnz s.data.toList).map mkB) = false → e = .returned (.tuple #[.slice none 0 0, .agg #[.int .i64 0, .int .i64 0], .int .i64 1])
  ok : oks lnP (lnz s.data.toList) = (lnz s.data.toList).length → validL ((lnz s.data.toList).map mkB) = true → ∃ v l, e = .returned (.tuple #[v, .agg #[.int .i64 0, .int .i64 0], .int .i64 0]) ∧ Own bc 60 5 w.heap.size w' v l ∧ (∀ x ∈ l, x.Ok w') ∧ l.map nrm = (lnz s.data.toList).map mkB
  hb : Below w.heap.size w w'
set_option maxHeartbeats 8000000 in
set_option maxRecDepth 100000 in
theorem Parse_any (s : ByteArray) (w : World) (hs : s.size ≤ 262144) (hC : Cut1 w) (hF : Frm w) : Calls Tryz.prog 20 #[.string s] w fun e w' => Prs s w e w' := by
  have hLl : (lnz s.data.toList).length ≤ 262144 := by have := lnz_le s.data.toList; simp at this; omega
  have hLs : ∀ x ∈ lnz s.data.toList, (⟨x.toArray⟩ : ByteArray).size ≤ 262144 := fun x hx => by
    have h1 := lnz_size _ x hx
    have h2 : (⟨x.toArray⟩ : ByteArray).size = x.length := by simp [ByteArray.size]
    have h3 : s.data.toList.length = s.size := by simp
    omega
  have HLs := Lib.hid hLs
  clear hLs
  refine (callsIn_wide (n := 6)).1 ?_
  refine callsIn_of_wp_marks Tryz.func20 rfl trivial ?_ rfl
  simp only [Tryz.ntmps20, List.size_toArray, List.length_cons, List.length_nil, Nat.reduceAdd, Nat.reduceSub, Array.replicate_succ, Array.replicate_zero, List.push_toArray, List.append_toArray, List.nil_append, List.cons_append]
  have hf47 : Fence.wide.fn 47 := trivial
  have hf48 : Fence.wide.fn 48 := trivial
  have hf15 : Fence.wide.fn 15 := trivial
  have g0 : decide ((s.size : Int) > 262144) = false := by simp; omega
  gi_upto_region 5 with fail
  simp only [Nat.add_assoc, Nat.reduceAdd]
  obtain ⟨A0, A1, A2, A3, A4, AB, AZ⟩ := laid5 w #[.slice none 0 0] #[.int .i64 0, .int .i64 0] #[.int .i64 0] #[.slice none 0 0] #[.int .i64 1, .int .i64 1] 22 37 25 22 37
  generalize (((((w.alloc (.cells #[.slice none 0 0] 22)).alloc (.cells #[.int .i64 0, .int .i64 0] 37)).alloc (.cells #[.int .i64 0] 25)).alloc (.cells #[.slice none 0 0] 22)).alloc (.cells #[.int .i64 1, .int .i64 1] 37)) = V at *
  have Hg := Has.new_ V 9 #[.string s]
  have HA := Lib.hid (And.intro A0 (And.intro A1 (And.intro A2 (And.intro A3 (And.intro A4 AB)))))
  have hz2 : (V.alloc (.cells #[.string s] 9)).heap.size = V.heap.size + 1 := World.size_alloc _ _
  clear A0 A1 A2 A3 A4 AB
  gi_wp2_with (gi_at_call 47; (with_reducible refine (callsIn_wide.2 (lines_any s V)).mono ?_); rintro X wk ⟨rfl, rfl⟩)
  obtain ⟨A0, A1, A2, A3, A4, AB⟩ := HA.out
  have bV := al1 V (.cells #[.string s] 9)
  have h0 : Pst w w.heap.size [] (V.alloc (.cells #[.string s] 9)) := ⟨A0.on bV, A1.on bV, A2.on bV, A4.on bV, ⟨_, [], A3.on bV, World.ownsRow_nil _ _ _ _, fun x h => (by cases h), rfl⟩, fun x h => (by cases h), al AB _⟩
  clear HA A0 A1 A2 A3 A4 AB bV
  rw [AZ] at Hg hz2
  generalize V.alloc (.cells #[.string s] 9) = V2 at *
  generalize hN : w.heap.size = N at *
  clear AZ
  refine wpIn_range_mut (N + 5) 0 (by omega) (gf := 77) (ba := #[]) (lb := #[.pointer (some ⟨N + 5, 0, none⟩)]) rfl (enters_of Tryz.func77 (by kernel_rfl) rfl) (encs := encL)
    (fun k => k = N + 5) (lnz s.data.toList) (fun _ => rfl)
    (fun W hW hbW => lines_yields _ (N + 5) s hs _ W (Hg.on hbW) rfl)
    (Pst w N) (Pex w N) (Pst.abd (by omega) (by omega)) (fun j => Pex.abd j (by omega)) (by omega) (Pst.abd (by omega) (by omega)) (fun j => Pex.abd j (by omega)) h0 ?round (fun k hk => by omega) ?done ?stop
  case round =>
    clear h0 Hg
    rintro L pre x rest W hxs C hsz
    have hsx := HLs.out x (by rw [hxs]; simp)
    have hpl : pre.length ≤ 262144 := by
      have := congrArg List.length hxs
      simp at this; omega
    simp only [encL]
    gi_wp2
    refine ⟨Kps.refl _ _, fun w3 hc hz3' => ?_⟩
    have C1 : Pst w N pre w3 := Pst.abd (lo := V2.heap.size) (hi := V2.heap.size + 2) (by omega) (by omega) _ _ _ C (hc.wide (by omega) (by omega))
    have h48 := barOf_any ⟨x.toArray⟩ w3 hsx (hC.on (by rw [hN]; exact C1.hb)) (hF.on (by rw [hN]; exact C1.hb))
    clear hc C hxs
    have HZ := Lib.hid (And.intro hz3' hsz)
    clear hz3' hsz
    cases hb : lnB ⟨x.toArray⟩
    · have HC1 := Lib.hid C1
      clear C1
      gi_upto_region 9 with (gi_at_call 48; (with_reducible refine (CallsIn.inRound L (callsIn_wide.2 h48)).mono ?_); rintro X wq ⟨hno, -, hbq⟩; obtain rfl := hno hb; unfold zeroB)
      have C1 := HC1.out
      have bb := al hbq (.cells #[.string ⟨#[]⟩, .int .i64 0, .int .i64 0, .int .i64 0, .slice none 0 0] 60)
      have KN : Kps (fun k => k = N + 5 ∨ V2.heap.size ≤ k ∧ k < V2.heap.size + (0 + 2)) w3 (wq.alloc (.cells #[.string ⟨#[]⟩, .int .i64 0, .int .i64 0, .int .i64 0, .slice none 0 0] 60)) := Kps.below bb
      have D0 := C1.c0.on bb
      have D1 := C1.c1.on bb
      have D2 := C1.c2.on bb
      have D4 := C1.c4.on bb
      have BB : Below N w (wq.alloc (.cells #[.string ⟨#[]⟩, .int .i64 0, .int .i64 0, .int .i64 0, .slice none 0 0] 60)) := C1.hb.trans (bb.mono (by rw [← hN]; exact C1.hb.size))
      generalize wq.alloc (.cells #[.string ⟨#[]⟩, .int .i64 0, .int .i64 0, .int .i64 0, .slice none 0 0] 60) = wb at *
      have F0 := D0.open_ 0
      have F1 := D1.open_ 0
      have F2 := D2.open_ 0
      have F3 := D1.open_ 1
      have G0 : wb.cell? ⟨N, 0, none⟩ = some (.slice none 0 0) := D0.read 0
      have G1 : wb.cell? ⟨N + 1, 0, none⟩ = some (.int .i64 0) := D1.read 0
      have G2 : wb.cell? ⟨N + 1, 1, none⟩ = some (.int .i64 0) := D1.read 1
      have G3 : wb.cell? ⟨N + 2, 0, none⟩ = some (.int .i64 0) := D2.read 0
      have G4 : wb.cell? ⟨N + 4, 0, none⟩ = some (.int .i64 ((pre.length + 1 : Nat) : Int)) := D4.read 0
      have G5 : wb.cell? ⟨N + 4, 1, none⟩ = some (.int .i64 1) := D4.read 1
      obtain ⟨P0, P1, P2, PC⟩ := put4 (.slice none 0 0) (.int .i64 ((pre.length : Int) + 1)) (.int .i64 1) (.int .i64 7) D0 D1 D2
      have HP := Lib.hid (And.intro P0.drew_ (And.intro P1.drew_ (And.intro P2.drew_ (PC.trans (Chg.drew _ 1)))))
      have HD := Lib.hid (And.intro KN BB)
      have HG := Lib.hid C1.gd
      clear P0 P1 P2 PC D0 D1 D2 D4 bb KN BB C1 HC1 h48
      gi_region
      all_goals
        gi_wp2
        obtain ⟨P0, P1, P2, PC⟩ := HP.out
        have PC2 : Chg N (N + 3) wb ((((wb.setCell ⟨N, 0, none⟩ (.slice none 0 0)).setCell ⟨N + 1, 0, none⟩ (.int .i64 ((pre.length : Int) + 1))).setCell ⟨N + 1, 1, none⟩ (.int .i64 1)).setCell ⟨N + 2, 0, none⟩ (.int .i64 7)).drew := PC
        generalize ((((wb.setCell ⟨N, 0, none⟩ (.slice none 0 0)).setCell ⟨N + 1, 0, none⟩ (.int .i64 ((pre.length : Int) + 1))).setCell ⟨N + 1, 1, none⟩ (.int .i64 1)).setCell ⟨N + 2, 0, none⟩ (.int .i64 7)).drew = W6 at *
        refine ⟨HD.out.1.trans ⟨PC2.size, fun k hk hs => PC2.block k hk (.inr (by rcases hs with h | h <;> omega))⟩, ⟨rfl, P0, ?_, P2, ⟨pre, x, rfl, HG.out, hb⟩, HD.out.2.trans (PC2.below (Nat.le_refl _) (by have := HD.out.2.size; omega))⟩⟩
        rw [show ((pre ++ [x]).length : Int) = (pre.length : Int) + 1 by simp]
        exact P1
    · have h48b : Calls Tryz.prog 48 #[.string ⟨x.toArray⟩] w3 fun e w' => ∃ p c, e = .returned (.tuple #[.agg #[.string (mkB x).mark, .int .i64 (mkB x).size, .int .i64 (mkB x).count, .int .i64 (mkB x).code, .slice p (mkB x).ds.length c], .bool true]) ∧ (∀ a, p = some a → w3.heap.size ≤ a.block) ∧ Rdz w' (.slice p (mkB x).ds.length c) (mkB x).ds ∧ Below w3.heap.size w3 w' := by
        have hdl : (mkB x).ds.length = (lnW ⟨x.toArray⟩).length - 4 := by unfold mkB; rw [List.length_drop, vals_len]
        rw [hdl]
        refine h48.mono ?_
        rintro e w' ⟨-, hy, hbl⟩
        obtain ⟨p, c, h1, h2, h3⟩ := hy hb
        exact ⟨p, c, h1, h2, h3, hbl⟩
      have hmk : (mkB x).mark.size ≤ maxLen := by
        unfold mkB
        rcases Nat.eq_zero_or_pos (lnW ⟨x.toArray⟩).length with h0 | h0
        · rw [List.getD_eq_getElem?_getD, List.getElem?_eq_none (by omega)]; show (⟨#[]⟩ : ByteArray).size ≤ maxLen; decide
        · rw [List.getD_eq_getElem?_getD, List.getElem?_eq_getElem h0]
          have h1 := split_size _ _ _ _ (show (lnW ⟨x.toArray⟩)[0] ∈ lnW ⟨x.toArray⟩ from List.getElem_mem h0)
          have h2 := lnT_size ⟨x.toArray⟩
          show ((lnW ⟨x.toArray⟩)[0]).size ≤ maxLen
          unfold maxLen; omega
      have hdm : (mkB x).ds.length ≤ maxLen := by
        unfold mkB
        rw [List.length_drop, vals_len]
        have := lnW_le ⟨x.toArray⟩
        unfold maxLen; omega
      have hnr : mkB x = ⟨(mkB x).mark, (mkB x).size, (mkB x).count, (mkB x).code, none, (mkB x).ds, 0⟩ := rfl
      clear h48
      generalize (mkB x).mark = mk at *
      generalize (mkB x).size = sz at *
      generalize (mkB x).count = ct at *
      generalize (mkB x).code = cd at *
      generalize (mkB x).ds = ds at *
      obtain ⟨v, l, c3, o, hx, hn⟩ := C1.ex
      have R3 : w3.cell? ⟨N + 3, 0, none⟩ = some v := c3.read 0
      have HH := Lib.hid (And.intro C1 (And.intro c3 (And.intro o (And.intro hx hn))))
      have HM := Lib.hid (And.intro hmk (And.intro hdm hnr))
      clear C1 c3 o hx hn hmk hdm hnr
      gi_upto_region 10 with (gi_at_call 48; (with_reducible refine (CallsIn.inRound L (callsIn_wide.2 h48b)).mono ?_); rintro X wq ⟨p, c, rfl, hpb, hrd, hbq⟩; have G3 := cellLater hbq R3; have E := (Env.nil wq).add wq.heap.size 60 #[.string mk, .int .i64 sz, .int .i64 ct, .int .i64 cd, .slice p ds.length c] rfl; obtain ⟨-, C0, C1, C2, C3, C4⟩ := s_b5 E; clear E)
      obtain ⟨C1', c3, o, hx, hn⟩ := HH.out
      obtain ⟨hmk, hdm, hnr⟩ := HM.out
      obtain ⟨hz3, hsz⟩ := HZ.out
      obtain ⟨j0, hj, hy0, hy1, hy2⟩ := info_parts info60
      have hll : l.length = pre.length := by simpa using congrArg List.length hn
      have b4 := al hbq (.cells #[.string mk, .int .i64 sz, .int .i64 ct, .int .i64 cd, .slice p ds.length c] 60)
      have hM : w3.heap.size ≤ wq.heap.size := hbq.size
      have hz4 : (wq.alloc (.cells #[.string mk, .int .i64 sz, .int .i64 ct, .int .i64 cd, .slice p ds.length c] 60)).heap.size = wq.heap.size + 1 := World.size_alloc _ _
      have G4 := cellLater (al1 wq (.cells #[.string mk, .int .i64 sz, .int .i64 ct, .int .i64 cd, .slice p ds.length c] 60)) G3
      have hrd4 := hrd.on (al1 wq (.cells #[.string mk, .int .i64 sz, .int .i64 ct, .int .i64 cd, .slice p ds.length c] 60))
      generalize wq.alloc (.cells #[.string mk, .int .i64 sz, .int .i64 ct, .int .i64 cd, .slice p ds.length c] 60) = w4 at *
      generalize wq.heap.size = M at *
      have HN := Has.new_ w4 60 #[.string mk, .int .i64 sz, .int .i64 ct, .int .i64 cd, .slice p ds.length c]
      have b5 := al b4 (.cells #[.string mk, .int .i64 sz, .int .i64 ct, .int .i64 cd, .slice p ds.length c] 60)
      have ho := own_on o b5
      have hcl : ∀ (j : Nat) (u : Value), [Value.string mk, .int .i64 sz, .int .i64 ct, .int .i64 cd, .slice p ds.length c][j]? = some u → (w4.alloc (.cells #[.string mk, .int .i64 sz, .int .i64 ct, .int .i64 cd, .slice p ds.length c] 60)).cell? ((⟨w4.heap.size, 0, none⟩ : Addr).add j) = some u := fun j u h => by
        rw [Addr.add_lit, Nat.zero_add, HN.read j]
        simpa using h
      have hz5 : (w4.alloc (.cells #[.string mk, .int .i64 sz, .int .i64 ct, .int .i64 cd, .slice p ds.length c] 60)).heap.size = w4.heap.size + 1 := World.size_alloc _ _
      have hbk := World.ownsRow.lt o
      have HHs := Lib.hid (And.intro b5 (And.intro (hrd4.on (al1 w4 (.cells #[.string mk, .int .i64 sz, .int .i64 ct, .int .i64 cd, .slice p ds.length c] 60))) (And.intro hpb (And.intro hbk (And.intro hz3 (And.intro hsz (And.intro hM hz4)))))))
      clear b4 b5 hrd4 hrd HN C1' c3 hx hn hmk hdm hnr hz3 hsz hM hz4 HZ hpb hbq hbk o h48b
      gi_wp2_with (gi_at_builtin; refine StopN.out ?_)
      refine StopN.mk ?_
      refine wpListIn_append_own_at _ rfl _ _ 22 rfl (N + 8) 60 j0 _ 5 64 Tryz.underlying22 hj hy0 hy1 hy2 rfl (by decide) _ l.length (l.flatMap bc) rfl ho _ 1 1 [Value.string mk, .int .i64 sz, .int .i64 ct, .int .i64 cd, .slice p ds.length c] rfl rfl hcl (by simp [Value.oneCell']) (by rw [hll]; unfold maxLen; omega) (by rw [hll]; omega) ?hb3 ?_
      case hb3 =>
        obtain ⟨-, -, -, -, h1, h2, h3, h4⟩ := HHs.out
        omega
      intro v' w6 r1 r2 r3 r4
      obtain ⟨g', cap', rfl⟩ := ownsRow_succ r1
      obtain ⟨C1', c3, o, hx, hn⟩ := HH.out
      obtain ⟨hmk, hdm, hnr⟩ := HM.out
      obtain ⟨b5, hrd5, hpb, hbk, hz3, hsz, hM, hz4⟩ := HHs.out
      generalize w4.alloc (.cells #[.string mk, .int .i64 sz, .int .i64 ct, .int .i64 cd, .slice p ds.length c] 60) = w5 at *
      have hsw := C1'.hb.size
      rw [hN] at hsw
      have hne : ∀ b, b < N + 8 → some b ≠ v.ownBlock := fun b hb e => by have := (hbk _ e.symm).1; omega
      have D0 := (C1'.c0.on b5).grown_ r2 (hne _ (by omega))
      have D1 := (C1'.c1.on b5).grown_ r2 (hne _ (by omega))
      have D2 := (C1'.c2.on b5).grown_ r2 (hne _ (by omega))
      have D3 := (c3.on b5).grown_ r2 (hne _ (by omega))
      have D4 := (C1'.c4.on b5).grown_ r2 (hne _ (by omega))
      have D4' : Has w6 (N + 4) 37 #[.int .i64 ((pre.length : Int) + 1), .int .i64 1] := by simpa using D4
      have B6 : Below N w w6 := (C1'.hb.trans (b5.mono hsw)).grown r2 (by have := b5.size; omega) (fun k e => by have := (hbk _ e).1; omega)
      have KG : Kps (fun k => k = N + 5 ∨ V2.heap.size ≤ k ∧ k < V2.heap.size + (0 + 2)) w3 w6 := (Kps.below b5).trans (Kps.grown r2 (fun k e => by have := (hbk _ e).1; intro h; rcases h with h | h <;> omega))
      have O7 : Own bc 60 5 (N + 8) w6 (.slice (some ⟨g', 0, none⟩) (l.length + 1) cap') (l ++ [(⟨mk, sz, ct, cd, p, ds, c⟩ : Bar)]) := own_snoc r1
      have hrx : ∀ b, (b < N + 8 ∨ v.ownBlock = some b) → Rdx b w5 (.slice p ds.length c) ds := fun b hb => rdz_rdx hrd5 (fun q c' e _ => by
        simp only [Value.slice.injEq] at e
        have h1 := hpb q e.1
        rcases hb with h | h
        · omega
        · have := (hbk _ h).2; omega)
      have HX7 : ∀ y ∈ l ++ [(⟨mk, sz, ct, cd, p, ds, c⟩ : Bar)], y.Ok w6 ∧ (∀ b, (b < N + 8 ∨ (Value.slice (some ⟨g', 0, none⟩) (l.length + 1) cap').ownBlock = some b) → Rdx b w6 y.sv y.ds) := fun y hy => by
        rcases List.mem_append.1 hy with hy | hy
        · obtain ⟨h1, h2⟩ := hx y hy
          have k1 := h1.on b5
          obtain ⟨k2, k3, k4⟩ := keep_all r2 r4 k1.rd (fun b hb => (h2 b (.inr hb)).on b5)
          exact ⟨⟨h1.nm, h1.ln, k2⟩, fun b hb => hb.elim (fun h => k4 b ((h2 b (.inl h)).on b5)) (k3 b)⟩
        · rw [List.mem_singleton.1 hy]
          obtain ⟨k2, k3, k4⟩ := keep_all r2 r4 hrd5 (fun b hb => hrx b (.inr hb))
          exact ⟨⟨hmk, hdm, k2⟩, fun b hb => hb.elim (fun h => k4 b (hrx b (.inl h))) (k3 b)⟩
      rw [hll] at O7 HX7
      have r6 : w6.cell? ⟨N + 3, 0, none⟩ = some v := D3.read 0
      have g6 := D3.open_ 0
      have r7 : w6.cell? ⟨N + 4, 0, none⟩ = some (.int .i64 ((pre.length : Int) + 1)) := D4'.read 0
      have g7 := D4'.open_ 0
      have W1 : IntKind.i64.wrap ((pre.length : Int) + 1 + 1) = (pre.length : Int) + 1 + 1 := IntWalk.i64_in _ (by omega)
      have hw6 : N + 4 < w6.heap.size := D4.size_
      have HF := Lib.hid (And.intro D0 (And.intro D1 (And.intro D2 (And.intro D3 (And.intro D4' (And.intro B6 (And.intro KG (And.intro O7 (And.intro HX7 (And.intro hn (And.intro hnr (And.intro C1'.gd hsw))))))))))))
      clear D0 D1 D2 D3 D4 D4' B6 KG O7 HX7 hn hnr C1' hsw hrx hne hmk hdm b5 hrd5 hpb hbk hz3 hsz hM hz4 c3 o hx r1 r2 r3 r4 ho hcl hz5 HHs HH HM
      gi_wp2
      obtain ⟨D0, D1, D2, D3, D4, B6, KG, O7, HX7, hn, hnr, hgd, hsw⟩ := HF.out
      have F : Chg (N + 3) (N + 5) w6 ((w6.setCell ⟨N + 3, 0, none⟩ (.slice (some ⟨g', 0, none⟩) (pre.length + 1) cap')).setCell ⟨N + 4, 0, none⟩ (.int .i64 ((pre.length : Int) + 1 + 1))) := (Chg.put _ _ _ (by show N + 3 ≤ N + 3; omega) (by show N + 3 < N + 5; omega)).trans (Chg.put _ _ _ (by show N + 3 ≤ N + 4; omega) (by show N + 4 < N + 5; omega))
      have E3 : Has ((w6.setCell ⟨N + 3, 0, none⟩ (.slice (some ⟨g', 0, none⟩) (pre.length + 1) cap')).setCell ⟨N + 4, 0, none⟩ (.int .i64 ((pre.length : Int) + 1 + 1))) (N + 3) 22 #[.slice (some ⟨g', 0, none⟩) (pre.length + 1) cap'] := (D3.put_ 0 _).apart_ (show N + 3 ≠ N + 4 by omega) _
      have E4 : Has ((w6.setCell ⟨N + 3, 0, none⟩ (.slice (some ⟨g', 0, none⟩) (pre.length + 1) cap')).setCell ⟨N + 4, 0, none⟩ (.int .i64 ((pre.length : Int) + 1 + 1))) (N + 4) 37 #[.int .i64 ((pre.length : Int) + 1 + 1), .int .i64 1] := (D4.apart_ (show N + 4 ≠ N + 3 by omega) _).put_ 0 _
      generalize (w6.setCell ⟨N + 3, 0, none⟩ (.slice (some ⟨g', 0, none⟩) (pre.length + 1) cap')).setCell ⟨N + 4, 0, none⟩ (.int .i64 ((pre.length : Int) + 1 + 1)) = wF at *
      refine ⟨KG.trans ⟨F.size, fun k hk hs => F.block k hk (.inr (by rcases hs with h | h <;> omega))⟩, ⟨D0.chg F (.inl (by omega)), D1.chg F (.inl (by omega)), D2.chg F (.inl (by omega)), ?_, ⟨_, _, E3, own_kept O7 fun k hk hB => F.block k hk (.inr (by omega)), fun y hy => ?_, ?_⟩, ?_, B6.trans (F.below (by omega) (by omega))⟩⟩
      · rw [show (((pre ++ [x]).length + 1 : Nat) : Int) = (pre.length : Int) + 1 + 1 by simp]
        exact E4
      · obtain ⟨k1, k2⟩ := HX7 y hy
        have key := fun b hb => rdx_chg (k2 b hb) F fun g hg => k2 g (.inl (by omega))
        exact ⟨⟨k1.nm, k1.ln, (key 0 (.inl (by omega))).rdz⟩, key⟩
      · rw [List.map_append, List.map_append, hn]
        simp only [List.map_cons, List.map_nil]
        rw [hnr]; rfl
      · intro y hy
        rcases List.mem_append.1 hy with h | h
        · exact hgd y h
        · rw [List.mem_singleton.1 h]; exact hb
  case done =>
    clear h0 Hg
    rintro W C hK
    have hgd : oks lnP (lnz s.data.toList) = (lnz s.data.toList).length := by
      have := oks_app lnP (a := lnz s.data.toList) (b := []) C.gd
      simpa [oks] using this
    obtain ⟨v, l, c3, o, hx, hn⟩ := C.ex
    obtain ⟨p, cap, rfl, hSl⟩ := Own.slb o fun y hy => (hx y hy).1
    have h15 := Valid_list p l cap W hSl
    have hvn : validL ((lnz s.data.toList).map mkB) = validL l := by
      cases h : validL l
      · cases h2 : validL ((lnz s.data.toList).map mkB)
        · rfl
        · rw [valid_nrm (l := (lnz s.data.toList).map mkB) (m := l) (by rw [hn, List.map_map]; rfl) h2] at h; cases h
      · exact valid_nrm (by rw [hn, List.map_map]; rfl) h
    have R : W.cell? ⟨N + 3, 0, none⟩ = some (.slice p l.length cap) := c3.read 0
    have HH := Lib.hid (And.intro C.hb (And.intro C.c0 (And.intro C.c1 (And.intro C.c2 (And.intro o (And.intro hx hn))))))
    clear C c3 o hx hn hSl
    cases hv : validL l
    · rw [hv] at h15 hvn
      gi_wp2_with (gi_at_call 15; (with_reducible refine (callsIn_wide.2 h15).mono ?_); rintro X wq ⟨rfl, hb⟩; have G4 := cellLater hb R; obtain ⟨D, D0, D1, D2, -⟩ := HH.out; have F0 := (D0.on hb).open_ 0; have F1 := (D1.on hb).open_ 0; have F2 := (D2.on hb).open_ 0; have F3 := (D1.on hb).open_ 1; have G0 : wq.cell? ⟨N, 0, none⟩ = some (.slice none 0 0) := (D0.on hb).read 0; have G1 : wq.cell? ⟨N + 1, 0, none⟩ = some (.int .i64 0) := (D1.on hb).read 0; have G2 : wq.cell? ⟨N + 1, 1, none⟩ = some (.int .i64 0) := (D1.on hb).read 1; have G3 : wq.cell? ⟨N + 2, 0, none⟩ = some (.int .i64 0) := (D2.on hb).read 0; clear D D0 D1 D2)
      obtain ⟨D, D0, D1, D2, o, hx, hn⟩ := HH.out
      obtain ⟨P0, P1, P2, PC⟩ := put4 (.slice none 0 0) (.int .i64 0) (.int .i64 0) (.int .i64 1) (D0.on hb) (D1.on hb) (D2.on hb)
      generalize (((wq.setCell ⟨N, 0, none⟩ (.slice none 0 0)).setCell ⟨N + 1, 0, none⟩ (.int .i64 0)).setCell ⟨N + 1, 1, none⟩ (.int .i64 0)).setCell ⟨N + 2, 0, none⟩ (.int .i64 1) = W4 at *
      have hWz : N + 6 < W.heap.size := by
        have := (Array.getElem?_eq_some_iff.1 hK).1; omega
      have hK4 : W4.heap[N + 5 + 1]? = some (Obj.deferred (some [])) := by
        rw [hz2] at hK
        rw [PC.block _ (by have := hb.size; omega) (.inr (by omega)), hb.block _ (by omega)]; exact hK
      refine ⟨by simp, .inl ⟨_, _, rfl, run_takeDeferred hK4, ?_⟩⟩
      have hc := fun ob => Chg.obj (lo := N + 5 + 1) (hi := N + 5 + 2) (l := N + 5 + 1) W4 ob (Nat.le_refl _) (Nat.lt_succ_self _)
      generalize hW5 : W4.putObj (N + 5 + 1) _ = W5
      have hc5 : Chg (N + 5 + 1) (N + 5 + 2) W4 W5 := by rw [← hW5]; exact hc _
      have hcc : Chg N (N + 7) wq W5 := (PC.wide (by omega) (by omega)).trans (hc5.wide (by omega) (by omega))
      have R0 : W5.cell? ⟨N, 0, none⟩ = some (.slice none 0 0) := (P0.chg hc5 (.inl (by omega))).read 0
      have R1 : W5.cell? ⟨N + 1, 0, none⟩ = some (.int .i64 0) := (P1.chg hc5 (.inl (by omega))).read 0
      have R2 : W5.cell? ⟨N + 1, 1, none⟩ = some (.int .i64 0) := (P1.chg hc5 (.inl (by omega))).read 1
      have R3 : W5.cell? ⟨N + 2, 0, none⟩ = some (.int .i64 1) := (P2.chg hc5 (.inl (by omega))).read 0
      have B5 : Below N w W5 := (D.trans (hb.mono (by rw [← hN]; exact D.size))).trans (hcc.below (Nat.le_refl _) (by have := hb.size; omega))
      refine ⟨.tuple #[.slice none 0 0, .agg #[.int .i64 0, .int .i64 0], .int .i64 1], by simp [results, Tryz.results20, go_sem, R0, R1, R2, R3], ⟨fun h => ?_, fun _ h => ?_, fun _ h => ?_, by rw [hN]; exact B5⟩⟩
      · exfalso; omega
      · rfl
      · rw [hvn] at h; cases h
    · rw [hv] at h15 hvn
      gi_wp2_with (gi_at_call 15; (with_reducible refine (callsIn_wide.2 h15).mono ?_); rintro X wq ⟨rfl, hb⟩; have G4 := cellLater hb R; obtain ⟨D, D0, D1, D2, -⟩ := HH.out; have F0 := (D0.on hb).open_ 0; have F1 := (D1.on hb).open_ 0; have F2 := (D2.on hb).open_ 0; have F3 := (D1.on hb).open_ 1; have G0 : wq.cell? ⟨N, 0, none⟩ = some (.slice none 0 0) := (D0.on hb).read 0; have G1 : wq.cell? ⟨N + 1, 0, none⟩ = some (.int .i64 0) := (D1.on hb).read 0; have G2 : wq.cell? ⟨N + 1, 1, none⟩ = some (.int .i64 0) := (D1.on hb).read 1; have G3 : wq.cell? ⟨N + 2, 0, none⟩ = some (.int .i64 0) := (D2.on hb).read 0; clear D D0 D1 D2)
      obtain ⟨D, D0, D1, D2, o, hx, hn⟩ := HH.out
      obtain ⟨P0, P1, P2, PC⟩ := put4 (.slice p l.length cap) (.int .i64 0) (.int .i64 0) (.int .i64 0) (D0.on hb) (D1.on hb) (D2.on hb)
      generalize (((wq.setCell ⟨N, 0, none⟩ (.slice p l.length cap)).setCell ⟨N + 1, 0, none⟩ (.int .i64 0)).setCell ⟨N + 1, 1, none⟩ (.int .i64 0)).setCell ⟨N + 2, 0, none⟩ (.int .i64 0) = W4 at *
      have hWz : N + 6 < W.heap.size := by
        have := (Array.getElem?_eq_some_iff.1 hK).1; omega
      have hK4 : W4.heap[N + 5 + 1]? = some (Obj.deferred (some [])) := by
        rw [hz2] at hK
        rw [PC.block _ (by have := hb.size; omega) (.inr (by omega)), hb.block _ (by omega)]; exact hK
      refine ⟨by simp, .inl ⟨_, _, rfl, run_takeDeferred hK4, ?_⟩⟩
      have hc := fun ob => Chg.obj (lo := N + 5 + 1) (hi := N + 5 + 2) (l := N + 5 + 1) W4 ob (Nat.le_refl _) (Nat.lt_succ_self _)
      generalize hW5 : W4.putObj (N + 5 + 1) _ = W5
      have hc5 : Chg (N + 5 + 1) (N + 5 + 2) W4 W5 := by rw [← hW5]; exact hc _
      have hcc : Chg N (N + 7) wq W5 := (PC.wide (by omega) (by omega)).trans (hc5.wide (by omega) (by omega))
      have R0 : W5.cell? ⟨N, 0, none⟩ = some (.slice p l.length cap) := (P0.chg hc5 (.inl (by omega))).read 0
      have R1 : W5.cell? ⟨N + 1, 0, none⟩ = some (.int .i64 0) := (P1.chg hc5 (.inl (by omega))).read 0
      have R2 : W5.cell? ⟨N + 1, 1, none⟩ = some (.int .i64 0) := (P1.chg hc5 (.inl (by omega))).read 1
      have R3 : W5.cell? ⟨N + 2, 0, none⟩ = some (.int .i64 0) := (P2.chg hc5 (.inl (by omega))).read 0
      have B5 : Below N w W5 := (D.trans (hb.mono (by rw [← hN]; exact D.size))).trans (hcc.below (Nat.le_refl _) (by have := hb.size; omega))
      refine ⟨.tuple #[.slice p l.length cap, .agg #[.int .i64 0, .int .i64 0], .int .i64 0], by simp [results, Tryz.results20, go_sem, R0, R1, R2, R3], ⟨fun h => ?_, fun _ h => ?_, fun _ h => ?_, by rw [hN]; exact B5⟩⟩
      · exfalso; omega
      · rw [hvn] at h; cases h
      · rw [hN]
        refine ⟨_, l, rfl, ?_, fun y hy => ?_, hn⟩
        · exact Own.mono (B' := N) (B := N + 8) (own_kept (own_on o hb) fun k hk hB => hcc.block k hk (.inr (by omega))) (by omega)
        · obtain ⟨k1, k2⟩ := hx y hy
          exact ⟨k1.nm, k1.ln, (rdx_chg ((k2 0 (.inl (by omega))).on hb) hcc fun g hg => (k2 g (.inl (by omega))).on hb).rdz⟩
  case stop =>
    clear h0 Hg
    rintro j pre rest W hxs C hK
    obtain rfl := C.jr
    have R0 : W.cell? ⟨N, 0, none⟩ = some (.slice none 0 0) := C.c0.read 0
    have R1 : W.cell? ⟨N + 1, 0, none⟩ = some (.int .i64 pre.length) := C.c1.read 0
    have R2 : W.cell? ⟨N + 1, 1, none⟩ = some (.int .i64 1) := C.c1.read 1
    have R3 : W.cell? ⟨N + 2, 0, none⟩ = some (.int .i64 7) := C.c2.read 0
    gi_wp2
    refine ⟨by simp, .inl ⟨_, _, rfl, run_takeDeferred hK, ?_⟩⟩
    have hc := fun o => Chg.obj (lo := V2.heap.size) (hi := V2.heap.size + 1) (l := V2.heap.size) W o (Nat.le_refl _) (Nat.lt_succ_self _)
    have C5 := fun o => Pex.abd (w := w) (N := N) .ret (lo := V2.heap.size) (hi := V2.heap.size + 1) (by omega) _ _ _ C (hc o)
    generalize hW5 : W.putObj V2.heap.size _ = W5
    have C6 : Pex w N .ret pre W5 := by rw [← hW5]; exact C5 _
    clear R0 R1 R2 R3 hc C5
    have R0 : W5.cell? ⟨N, 0, none⟩ = some (.slice none 0 0) := C6.c0.read 0
    have R1 : W5.cell? ⟨N + 1, 0, none⟩ = some (.int .i64 pre.length) := C6.c1.read 0
    have R2 : W5.cell? ⟨N + 1, 1, none⟩ = some (.int .i64 1) := C6.c1.read 1
    have R3 : W5.cell? ⟨N + 2, 0, none⟩ = some (.int .i64 7) := C6.c2.read 0
    obtain ⟨p, x, rfl, hp, hx⟩ := C.sh
    have ho : oks lnP (lnz s.data.toList) = p.length := by
      rw [hxs, List.append_assoc, oks_app lnP hp]
      simp [oks, hx]
    have hlen : (lnz s.data.toList).length = p.length + 1 + rest.length := by rw [hxs]; simp; omega
    refine ⟨.tuple #[.slice none 0 0, .agg #[.int .i64 (p ++ [x]).length, .int .i64 1], .int .i64 7], by simp [results, Tryz.results20, go_sem, R0, R1, R2, R3], ⟨fun _ => ?_, fun h => ?_, fun h => ?_, by rw [hN]; exact C6.hb⟩⟩
    · rw [ho]; simp
    · exfalso; omega
    · exfalso; omega
end Go.Proofs.YthdafpbmmfelpaaGreatDoor
namespace Go.Proofs.YthdafpbmmfelpaaGreatDoor
open Go.ChangeShapes Go.WideShapes Go.ChangeAt Go.RowKit Dec
set_option linter.unusedVariables false
set_option linter.unusedSimpArgs false

/-- No space and no end of a line. -/
def pln (l : List UInt8) : Prop := ∀ c ∈ l, c ≠ 32 ∧ c ≠ 10
theorem pln_ad {l : List UInt8} (h : adB l = true) : pln l := by
  have hall := (cnt_all_iff dgB _).1 (adB_iff.1 h)
  intro c hc
  have := dgB_iff.1 (hall c hc)
  constructor <;> (rintro rfl; revert this; decide)
theorem name_pln {l : List UInt8} (h : nameB l = true) : pln l ∧ l.length ≤ 20 := by
  unfold nameB at h
  simp only [Bool.and_eq_true, beq_iff_eq, Bool.not_eq_true'] at h
  obtain ⟨⟨h0, h1⟩, h2⟩ := h
  cases l with
  | nil => simp at h0
  | cons c r =>
    have e : firstL (c :: r) = firstC (cls (c.toNat : Int)) c r := rfl
    rw [e] at h1 h2
    cases hk : cls (c.toNat : Int) <;> rw [hk] at h1 h2 <;> simp only [firstC] at h1 h2
    case let_ =>
      split at h1
      · simp at h1
      · rename_i hle
        rw [if_neg hle] at h2
        dsimp only at h2
        refine ⟨fun x hx => ?_, by rw [← h2]; omega⟩
        have hw := (cnt_all_iff wdB _).1 h2 x hx
        unfold wdB ltB dgB at hw
        simp only [Bool.or_eq_true, decide_eq_true_eq, beq_iff_eq] at hw
        constructor <;> (rintro rfl; revert hw; decide)
    all_goals simp at h1
theorem ad_snoc (l : List UInt8) (c : UInt8) : adB (l ++ [c]) = (adB l && dgB (c.toNat : Int)) := by
  rw [Bool.eq_iff_iff, Bool.and_eq_true, adB_iff, adB_iff, cnt_all_iff, cnt_all_iff]
  constructor
  · intro h
    exact ⟨fun x hx => h x (by simp [hx]), h c (by simp)⟩
  · rintro ⟨h1, h2⟩ x hx
    rcases List.mem_append.1 hx with h | h
    · exact h1 x h
    · rw [List.mem_singleton.1 h]; exact h2
theorem dig_dv {i : Nat} (h : i < 10) : dgB (((UInt8.ofNat (48 + i)).toNat : Nat) : Int) = true ∧ dv (UInt8.ofNat (48 + i)) = i := by
  have e : (UInt8.ofNat (48 + i)).toNat = 48 + i := by simp [UInt8.toNat_ofNat']; omega
  constructor
  · rw [dgB_iff, e]; omega
  · unfold dv; rw [e]; omega
theorem dv_dig {c : UInt8} (h : dgB (c.toNat : Int) = true) : UInt8.ofNat (48 + dv c) = c := by
  have := dgB_iff.1 h
  have e : 48 + dv c = c.toNat := by unfold dv; omega
  rw [e]; simp
/-- The digits of a number. -/
theorem dec_ok : ∀ u : Nat, adB (Lib.decDigits u) = true ∧ dnum 0 (Lib.decDigits u) = u ∧ 1 ≤ (Lib.decDigits u).length ∧ (1 ≤ u → (Lib.decDigits u).head? ≠ some 48)
  | u => by
    by_cases h : u < 10
    · rw [Lib.decDigits_one h]
      obtain ⟨h1, h2⟩ := dig_dv h
      refine ⟨by rw [ad_one]; exact h1, ?_, by simp, fun h3 e => ?_⟩
      · show 10 * 0 + dv _ = u
        rw [h2]; omega
      · simp only [List.head?_cons, Option.some.injEq] at e
        have : dv (48 : UInt8) = u := by rw [← e]; exact h2
        have h48 : dv (48 : UInt8) = 0 := by decide
        omega
    · obtain ⟨i1, i2, i3, i4⟩ := dec_ok (u / 10)
      obtain ⟨h1, h2⟩ := dig_dv (i := u % 10) (by omega)
      rw [Lib.decDigits, dif_neg h]
      refine ⟨by rw [ad_snoc, i1, h1]; rfl, by rw [dnum_snoc, i2, h2]; omega, by simp, fun _ => ?_⟩
      rw [List.head?_append]
      have := i4 (by omega)
      cases hd : (Lib.decDigits (u / 10)).head? with
      | none => rw [List.head?_eq_none_iff] at hd; rw [hd] at i3; simp at i3
      | some x => rw [hd] at this; simpa using this
  termination_by u => u
  decreasing_by omega
theorem dnum_ge : ∀ (l : List UInt8) (m : Nat), m * 10 ^ l.length ≤ dnum m l
  | [], m => by simp [dnum]
  | c :: r, m => by
    have ih := dnum_ge r (10 * m + dv c)
    rw [List.length_cons, Nat.pow_succ]
    have e : dnum m (c :: r) = dnum (10 * m + dv c) r := rfl
    rw [e]
    refine Nat.le_trans ?_ ih
    rw [show m * (10 ^ r.length * 10) = 10 * m * 10 ^ r.length by rw [Nat.mul_comm 10 m, Nat.mul_assoc, Nat.mul_comm 10]]
    exact Nat.mul_le_mul_right _ (by omega)
/-- A number's digits are its own. -/
theorem dec_back : ∀ (n : Nat) (l : List UInt8), l.length = n → adB l = true → 1 ≤ l.length → (1 < l.length → l.head? ≠ some 48) → Lib.decDigits (dnum 0 l) = l
  | 0, l, h, _, h1, _ => by omega
  | n + 1, l, h, ha, h1, hd => by
    have hne : l ≠ [] := by intro e; rw [e] at h1; simp at h1
    obtain ⟨y, c, rfl⟩ : ∃ y c, l = y ++ [c] := ⟨l.dropLast, l.getLast hne, (List.dropLast_concat_getLast hne).symm⟩
    rw [ad_snoc, Bool.and_eq_true] at ha
    obtain ⟨ha1, hc⟩ := ha
    have hcl := dv_le hc
    rw [dnum_snoc]
    cases y with
    | nil =>
      rw [show dnum 0 [] = 0 from rfl, Lib.decDigits_one (by omega)]
      rw [show 10 * 0 + dv c = dv c by omega, dv_dig hc]; rfl
    | cons d r =>
      have hd1 : d ≠ 48 := by
        intro e
        refine hd (by simp) ?_
        rw [e]; rfl
      obtain ⟨hdd, hr⟩ := ad_cons ha1
      have hdv : 1 ≤ dv d := by
        have h3 := dgB_iff.1 hdd
        have h4 : d.toNat ≠ 48 := fun e => hd1 (by rw [← UInt8.toNat_inj, e]; rfl)
        unfold dv; omega
      have hge : 1 ≤ dnum 0 (d :: r) := by
        have e : dnum 0 (d :: r) = dnum (dv d) r := by show dnum (10 * 0 + dv d) r = _; rw [Nat.mul_zero, Nat.zero_add]
        rw [e]
        refine Nat.le_trans ?_ (dnum_ge r (dv d))
        exact Nat.mul_pos (by omega) (Nat.pow_pos (by decide))
      have ih := dec_back n (d :: r) (by simp at h ⊢; omega) ha1 (by simp) (fun _ e => hd (by simp) (by simpa using e))
      rw [Lib.decDigits, dif_neg (by omega), show (10 * dnum 0 (d :: r) + dv c) / 10 = dnum 0 (d :: r) by omega, show (10 * dnum 0 (d :: r) + dv c) % 10 = dv c by omega, ih, dv_dig hc]
theorem num_and {l : List UInt8} (h : numW l = true) : adB l = true ∧ 1 ≤ l.length ∧ l.length ≤ 10 ∧ (1 < l.length → l.head? ≠ some 48) := by
  unfold numW at h
  simp only [Bool.and_eq_true, decide_eq_true_eq] at h
  obtain ⟨h1, h2⟩ := h
  have h3 := whole_ad h1
  unfold wholeB at h1
  simp only [Bool.or_eq_true, Bool.and_eq_true, beq_iff_eq, Bool.not_eq_true'] at h1
  rcases h1 with rfl | ⟨⟨_, h4⟩, h5⟩
  · exact ⟨h3, by simp, h2, fun h => by simp at h⟩
  · refine ⟨h3, ?_, h2, fun _ e => by rw [e] at h5; simp at h5⟩
    cases l with
    | nil => simp at h4
    | cons => simp
/-- A number's word is read back, and what was read is written so. -/
theorem num_read {n : Int} (h0 : 0 ≤ n) (h1 : n ≤ 1048576) : numW (Lib.itoa n) = true ∧ ((dnum 0 (Lib.itoa n) : Nat) : Int) = n ∧ pln (Lib.itoa n) := by
  obtain ⟨u, rfl⟩ := Int.eq_ofNat_of_zero_le h0
  rw [Lib.itoa_nonneg]
  obtain ⟨i1, i2, i3, i4⟩ := dec_ok u
  refine ⟨?_, by rw [i2], pln_ad i1⟩
  have hz : 1 < (Lib.decDigits u).length → 1 ≤ u := fun h => by
    rcases Nat.eq_zero_or_pos u with rfl | h2
    · rw [Lib.decDigits_one (by decide)] at h; simp at h
    · exact h2
  have hl : (Lib.decDigits u).length ≤ 10 := by
    rcases Nat.lt_or_ge 10 (Lib.decDigits u).length with h | h
    · exfalso
      cases hd : Lib.decDigits u with
      | nil => rw [hd] at i3; simp at i3
      | cons d r =>
        rw [hd] at i1 i2 h
        have h4 := i4 (hz (by rw [hd]; omega))
        rw [hd] at h4
        obtain ⟨hdd, -⟩ := ad_cons i1
        have hdv : 1 ≤ dv d := by
          have h3 := dgB_iff.1 hdd
          have h5 : d.toNat ≠ 48 := fun e => h4 (by rw [show d = 48 by rw [← UInt8.toNat_inj, e]; rfl]; rfl)
          unfold dv; omega
        have hge := dnum_ge r (dv d)
        have e : dnum 0 (d :: r) = dnum (dv d) r := by show dnum (10 * 0 + dv d) r = _; rw [Nat.mul_zero, Nat.zero_add]
        rw [← e, i2] at hge
        have hp : 10 ^ 10 ≤ 10 ^ r.length := Nat.pow_le_pow_right (by decide) (by simp at h; omega)
        have hm : 1 * 10 ^ r.length ≤ dv d * 10 ^ r.length := Nat.mul_le_mul_right _ hdv
        have h10 : (10 : Nat) ^ 10 = 10000000000 := by decide
        omega
    · exact h
  rw [num_ad i3 hl (fun h => i4 (hz h))]; exact i1
theorem num_back {l : List UInt8} (h : numW l = true) : Lib.itoa ((dnum 0 l : Nat) : Int) = l ∧ pln l := by
  obtain ⟨h1, h2, h3, h4⟩ := num_and h
  rw [Lib.itoa_nonneg]
  exact ⟨dec_back _ l rfl h1 h2 h4, pln_ad h1⟩
/-- The same of codes. -/
theorem cod_read {c : Int} (h : isC c = true) : codB (cdL c) = true ∧ ((dnum 0 (cdL c) : Nat) : Int) = c ∧ pln (cdL c) := by
  have key : codB (cdL c) = true ∧ ((dnum 0 (cdL c) : Nat) : Int) = c := by
    have e : ∀ n : Nat, Lib.itoa (n : Int) = Lib.decDigits n := Lib.itoa_nonneg
    have k : ∀ n : Nat, 10 ≤ n → n < 100 → c = (n : Int) → codB (cdL c) = true ∧ ((dnum 0 (cdL c) : Nat) : Int) = c := by
      rintro n h1 h2 rfl
      obtain ⟨i1, i2, -, -⟩ := dec_ok n
      have hl : (Lib.decDigits n).length = 2 := by rw [Lib.decDigits_two (by omega) h2]; rfl
      unfold cdL
      rw [if_neg (by omega), e, i2]
      refine ⟨?_, rfl⟩
      unfold codB
      rw [hl, i1]; rfl
    rcases code_in h with rfl | rfl | rfl | rfl | rfl | rfl | rfl | rfl
    · have e0 : cdL 0 = [48, 48] := by
        unfold cdL
        rw [if_pos (by decide), show (0 : Int) = ((0 : Nat) : Int) from rfl, e, Lib.decDigits_one (by decide)]; rfl
      rw [e0]; exact ⟨by decide, by decide⟩
    · exact k 11 (by decide) (by decide) rfl
    · exact k 21 (by decide) (by decide) rfl
    · exact k 26 (by decide) (by decide) rfl
    · exact k 31 (by decide) (by decide) rfl
    · exact k 41 (by decide) (by decide) rfl
    · exact k 51 (by decide) (by decide) rfl
    · exact k 98 (by decide) (by decide) rfl
  refine ⟨key.1, key.2, ?_⟩
  have := key.1
  unfold codB at this
  rw [Bool.and_eq_true] at this
  exact pln_ad this.2
theorem cod_back {l : List UInt8} (h : codB l = true) : cdL ((dnum 0 l : Nat) : Int) = l ∧ pln l := by
  unfold codB at h
  simp only [Bool.and_eq_true, decide_eq_true_eq] at h
  obtain ⟨h1, h2⟩ := h
  refine ⟨?_, pln_ad h2⟩
  match l, h1 with
  | [a, b], _ =>
    rw [ad_two, Bool.and_eq_true] at h2
    have ha := dv_le h2.1
    have hb := dv_le h2.2
    have e : dnum 0 [a, b] = 10 * dv a + dv b := by show 10 * (10 * 0 + dv a) + dv b = _; omega
    rw [e]
    unfold cdL
    rw [Lib.itoa_nonneg]
    by_cases h0 : dv a = 0
    · rw [if_pos (by omega), Lib.decDigits_one (by omega), h0]
      have ea := dv_dig h2.1
      rw [h0] at ea
      rw [show 10 * 0 + dv b = dv b by omega, dv_dig h2.2, ← ea]; rfl
    · rw [if_neg (by omega), Lib.decDigits_two (by omega) (by omega), show (10 * dv a + dv b) / 10 = dv a by omega, show (10 * dv a + dv b) % 10 = dv b by omega, dv_dig h2.1, dv_dig h2.2]
end Go.Proofs.YthdafpbmmfelpaaGreatDoor
namespace Go.Proofs.YthdafpbmmfelpaaGreatDoor
open Go.ChangeShapes Go.WideShapes Go.ChangeAt Go.RowKit Dec
set_option linter.unusedVariables false
set_option linter.unusedSimpArgs false

theorem wds_join : ∀ {ws : List (List UInt8)}, ws ≠ [] → (∀ x ∈ ws, pln x) → wds (Lib.join ws [32]) = ws
  | [], h, _ => absurd rfl h
  | [x], _, h => by rw [Lib.join_one, wds_none fun c hc => (h x (by simp) c hc).1]
  | x :: y :: r, _, h => by
    have ih := wds_join (ws := y :: r) (by simp) fun z hz => h z (by simp [hz])
    rw [Lib.join_cons] at ih
    rw [Lib.join_cons]
    have e : Lib.joinTail [32] (y :: r) = 32 :: (y ++ Lib.joinTail [32] r) := by simp [Lib.joinTail]
    rw [e, wds_hit fun c hc => (h x (by simp) c hc).1, ih]
theorem wds_ne : ∀ l : List UInt8, wds l ≠ []
  | [] => by simp [wds]
  | c :: l => by unfold wds; split; · simp
                 · split <;> simp
theorem join_wds : ∀ l : List UInt8, Lib.join (wds l) [32] = l
  | [] => by simp [wds, Lib.join_one]
  | c :: l => by
    have ih := join_wds l
    unfold wds
    by_cases h : c = 32
    · rw [if_pos h]
      cases hw : wds l with
      | nil => exact absurd hw (wds_ne l)
      | cons x xs =>
        rw [hw, Lib.join_cons] at ih
        rw [Lib.join_cons, show Lib.joinTail [32] (x :: xs) = 32 :: (x ++ Lib.joinTail [32] xs) by simp [Lib.joinTail], ih, h]; rfl
    · rw [if_neg h]
      cases hw : wds l with
      | nil => exact absurd hw (wds_ne l)
      | cons x xs =>
        rw [hw, Lib.join_cons] at ih
        show Lib.join ((c :: x) :: xs) [32] = _
        rw [Lib.join_cons, List.cons_append, ih]
theorem ba_inj {a b : ByteArray} (h : a.data.toList = b.data.toList) : a = b := ByteArray.ext (Array.toList_inj.1 h)
theorem list_ba : ∀ {a b : List ByteArray}, a.map (·.data.toList) = b.map (·.data.toList) → a = b
  | [], [], _ => rfl
  | [], y :: b, h => by simp at h
  | x :: a, [], h => by simp at h
  | x :: a, y :: b, h => by
    simp only [List.map_cons, List.cons.injEq] at h
    rw [ba_inj h.1, list_ba h.2]
theorem lnT_of (a : List UInt8) : lnE ⟨(a ++ [10]).toArray⟩ = true ∧ (lnT ⟨(a ++ [10]).toArray⟩).data.toList = a := by
  have hE : Lib.hasSuffix (a ++ [10]) [10] = true := by unfold Lib.hasSuffix; rw [List.isSuffixOf_iff_suffix]; exact List.suffix_append _ _
  constructor
  · unfold lnE; simpa using hE
  · have e : (⟨(a ++ [10]).toArray⟩ : ByteArray).data.toList = a ++ [10] := rfl
    have e2 : Lib.trimSuffix (a ++ [10]) [10] = a := by
      unfold Lib.trimSuffix
      rw [if_pos hE]; simp
    show (Lib.trimSuffix (⟨(a ++ [10]).toArray⟩ : ByteArray).data.toList [10]).toArray.toList = a
    rw [e, e2]
theorem ln_end {x : List UInt8} (h : lnE ⟨x.toArray⟩ = true) : ∃ a, x = a ++ [10] := by
  unfold lnE Lib.hasSuffix at h
  rw [List.isSuffixOf_iff_suffix] at h
  obtain ⟨a, e⟩ := h
  exact ⟨a, by simpa using e.symm⟩
theorem lnW_wds (s : ByteArray) : (lnW s).map (·.data.toList) = wds (lnT s).data.toList := split_wds _ _ rfl
/-- The words of a bar. -/
theorem words_pln {b : Bar} (hv : barB b = true) : ∀ x ∈ (wordsB b).map (·.data.toList), pln x := by
  obtain ⟨hC, hln, hft, hnm, hsz, hc1, hc2⟩ := barB_and hv
  have hs := isz_cases hsz
  intro x hx
  obtain ⟨y, hy, rfl⟩ := List.mem_map.1 hx
  unfold wordsB at hy
  rcases List.mem_append.1 hy with hy | hy
  · simp only [List.mem_cons, List.not_mem_nil, or_false] at hy
    rcases hy with rfl | rfl | rfl | rfl
    · exact (name_pln hnm).1
    · exact (num_read (n := b.size) (by omega) (by omega)).2.2
    · exact (num_read (n := b.count) (by omega) (by omega)).2.2
    · exact (cod_read hC).2.2
  · obtain ⟨d, hd, rfl⟩ := List.mem_map.1 hy
    have := fit_in hft d hd
    exact (num_read (n := d) (by omega) (by omega)).2.2
theorem words_len (b : Bar) : (wordsB b).length = b.ds.length + 4 := by unfold wordsB; simp
theorem words_get {b : Bar} {i : Nat} (h : i < b.ds.length) : (wordsB b).getD (i + 4) ⟨#[]⟩ = itB b.ds[i] := by
  unfold wordsB
  rw [List.getD_eq_getElem?_getD, List.getElem?_append_right (by simp)]
  simp [h]
theorem lineL_pln {b : Bar} (hv : barB b = true) : ∀ c ∈ lineL b, c ≠ 10 := by
  have h := words_pln hv
  unfold lineL
  intro c hc e
  rw [e] at hc
  have key : ∀ ws : List (List UInt8), (∀ x ∈ ws, pln x) → (10 : UInt8) ∉ Lib.joinTail [32] ws := fun ws hws hm => by
    unfold Lib.joinTail at hm
    obtain ⟨l, hl, hm⟩ := List.mem_flatten.1 hm
    obtain ⟨z, hz, rfl⟩ := List.mem_map.1 hl
    rcases List.mem_append.1 hm with h1 | h1
    · revert h1; decide
    · exact (hws z hz _ h1).2 rfl
  cases hw : (wordsB b).map (·.data.toList) with
  | nil => rw [hw] at hc; cases hc
  | cons x r =>
    rw [hw] at hc h
    rw [Lib.join_cons] at hc
    rcases List.mem_append.1 hc with h1 | h1
    · exact (h x (by simp) _ h1).2 rfl
    · exact key r (fun z hz => h z (by simp [hz])) h1
/-- The words of a bar's line. -/
theorem lnW_line {b : Bar} (hv : barB b = true) : lnW ⟨(lineL b ++ [10]).toArray⟩ = wordsB b := by
  refine list_ba ?_
  rw [lnW_wds, (lnT_of _).2]
  unfold lineL
  exact wds_join (by unfold wordsB; simp) (words_pln hv)
theorem wrds_line {b : Bar} (hv : barB b = true) : wrdsB (wordsB b) = true ∧ (∀ i, 1 ≤ i → (h : i < (wordsB b).length) → True) := by
  obtain ⟨hC, hln, hft, hnm, hsz, hc1, hc2⟩ := barB_and hv
  have hs := isz_cases hsz
  refine ⟨?_, fun _ _ _ => trivial⟩
  unfold wrdsB
  rw [List.all_eq_true]
  intro i hi
  have hi := List.mem_range.1 hi
  rw [words_len] at hi
  match i, hi with
  | 0, _ => exact hnm
  | 1, _ => exact (num_read (n := b.size) (by omega) (by omega)).1
  | 2, _ => exact (num_read (n := b.count) (by omega) (by omega)).1
  | 3, _ => exact (cod_read hC).1
  | i + 4, hi =>
    have h : i < b.ds.length := by omega
    rw [words_get h]
    have := fit_in hft _ (List.getElem_mem h)
    unfold wrdB
    rw [if_neg (by omega), if_neg (by omega)]
    exact (num_read (n := b.ds[i]) (by omega) (by omega)).1
theorem lnB_line {b : Bar} (hv : barB b = true) : lnP (lineL b ++ [10]) = true := by
  unfold lnP lnB
  rw [lnW_line hv, (lnT_of _).1, (wrds_line hv).1, words_len]
  have : 1 ≤ b.ds.length := by
    obtain ⟨hC, hln, -⟩ := barB_and hv
    rw [hln]
    rcases code_in hC with h | h | h | h | h | h | h | h <;> rw [h] <;> decide
  simp; omega
theorem mkB_line {b : Bar} (hv : barB b = true) : mkB (lineL b ++ [10]) = nrm b := by
  obtain ⟨hC, hln, hft, hnm, hsz, hc1, hc2⟩ := barB_and hv
  have hs := isz_cases hsz
  unfold mkB
  rw [lnW_line hv]
  have e0 : (wordsB b).getD 0 ⟨#[]⟩ = b.mark := rfl
  have e1 : wrdV 1 ((wordsB b).getD 1 ⟨#[]⟩) = b.size := (num_read (n := b.size) (by omega) (by omega)).2.1
  have e2 : wrdV 2 ((wordsB b).getD 2 ⟨#[]⟩) = b.count := (num_read (n := b.count) (by omega) (by omega)).2.1
  have e3 : wrdV 3 ((wordsB b).getD 3 ⟨#[]⟩) = b.code := (cod_read hC).2.1
  have e4 : (vals (wordsB b) (wordsB b).length).drop 4 = b.ds := by
    refine List.ext_getElem (by rw [List.length_drop, vals_len, words_len]; omega) fun i h1 h2 => ?_
    rw [List.getElem_drop]
    unfold vals
    rw [List.getElem_map, List.getElem_range, show 4 + i = i + 4 by omega, words_get h2]
    have := fit_in hft _ (List.getElem_mem h2)
    unfold wrdV
    rw [if_neg (by omega)]
    exact (num_read (n := b.ds[i]) (by omega) (by omega)).2.1
  rw [e0, e1, e2, e3, e4]; rfl
theorem lnz_text : ∀ {l : List Bar}, (∀ b ∈ l, barB b = true) → lnz (textL l) = l.map fun b => lineL b ++ [10]
  | [], _ => rfl
  | b :: r, h => by
    have ih := lnz_text (l := r) fun x hx => h x (by simp [hx])
    have e : textL (b :: r) = lineL b ++ 10 :: textL r := by unfold textL; simp
    rw [e, lnz_hit (lineL_pln (h b (by simp))), ih, List.map_cons]
/-- A text written and read. -/
theorem text_read {l : List Bar} (h : ∀ b ∈ l, barB b = true) : oks lnP (lnz (textL l)) = (lnz (textL l)).length ∧ (lnz (textL l)).map mkB = l.map nrm := by
  rw [lnz_text h]
  constructor
  · have := oks_app lnP (a := l.map fun b => lineL b ++ [10]) (b := []) fun x hx => by
      obtain ⟨b, hb, rfl⟩ := List.mem_map.1 hx
      exact lnB_line (h b hb)
    simpa [oks] using this
  · rw [List.map_map]
    exact List.map_congr_left fun b hb => mkB_line (h b hb)
/-- A line read and written. -/
theorem line_back {x : List UInt8} (h : lnP x = true) (hC : isC (mkB x).code = true) : lineL (mkB x) ++ [10] = x := by
  unfold lnP lnB at h
  simp only [Bool.and_eq_true, decide_eq_true_eq] at h
  obtain ⟨hE, h5, hw⟩ := h
  obtain ⟨a, rfl⟩ := ln_end hE
  have hT := (lnT_of a).2
  have hW := lnW_wds ⟨(a ++ [10]).toArray⟩
  rw [hT] at hW
  have hall : ∀ i, i < (lnW ⟨(a ++ [10]).toArray⟩).length → wrdB i ((lnW ⟨(a ++ [10]).toArray⟩).getD i ⟨#[]⟩) = true := fun i hi => by
    unfold wrdsB at hw
    exact List.all_eq_true.1 hw i (List.mem_range.2 hi)
  have key : (wordsB (mkB (a ++ [10]))).map (·.data.toList) = wds a := by
    rw [← hW]
    congr 1
    unfold mkB
    generalize lnW ⟨(a ++ [10]).toArray⟩ = ws at *
    have hlen : (wordsB ⟨ws.getD 0 ⟨#[]⟩, wrdV 1 (ws.getD 1 ⟨#[]⟩), wrdV 2 (ws.getD 2 ⟨#[]⟩), wrdV 3 (ws.getD 3 ⟨#[]⟩), none, (vals ws ws.length).drop 4, 0⟩).length = ws.length := by
      rw [words_len]; show ((vals ws ws.length).drop 4).length + 4 = _
      rw [List.length_drop, vals_len]; omega
    have back : ∀ i, i < ws.length → i ≠ 0 → i ≠ 3 → itB (wrdV i (ws.getD i ⟨#[]⟩)) = ws.getD i ⟨#[]⟩ := fun i hi h0 h3 => by
      have := hall i hi
      unfold wrdB at this
      rw [if_neg h0, if_neg h3] at this
      unfold wrdV
      rw [if_neg h0]
      refine ba_inj ?_
      unfold itB
      simpa using (num_back this).1
    have get : ∀ i (hi : i < ws.length), ws.getD i ⟨#[]⟩ = ws[i] := fun i hi => by rw [List.getD_eq_getElem?_getD, List.getElem?_eq_getElem hi]; rfl
    refine List.ext_getElem hlen fun i h1 h2 => ?_
    rw [← get i h2]
    match i, h2 with
    | 0, _ => rfl
    | 1, h2 => exact back 1 h2 (by decide) (by decide)
    | 2, h2 => exact back 2 h2 (by decide) (by decide)
    | 3, h2 =>
      have := hall 3 h2
      unfold wrdB at this
      refine ba_inj ?_
      show (cdB (wrdV 3 (ws.getD 3 ⟨#[]⟩))).data.toList = _
      unfold cdB wrdV
      simpa using (cod_back this).1
    | i + 4, h2 =>
      have hi : i < ((vals ws ws.length).drop 4).length := by rw [List.length_drop, vals_len]; omega
      have e := words_get (b := ⟨ws.getD 0 ⟨#[]⟩, wrdV 1 (ws.getD 1 ⟨#[]⟩), wrdV 2 (ws.getD 2 ⟨#[]⟩), wrdV 3 (ws.getD 3 ⟨#[]⟩), none, (vals ws ws.length).drop 4, 0⟩) hi
      rw [List.getD_eq_getElem?_getD, List.getElem?_eq_getElem h1] at e
      rw [← back (i + 4) h2 (by omega) (by omega)]
      refine Eq.trans e ?_
      congr 1
      show ((vals ws ws.length).drop 4)[i] = _
      rw [List.getElem_drop]
      unfold vals
      rw [List.getElem_map, List.getElem_range, show 4 + i = i + 4 by omega]
  unfold lineL
  rw [key, join_wds]
theorem textL_nrm (l : List Bar) : textL (l.map nrm) = textL l := by
  unfold textL
  rw [List.flatMap_map]; rfl
theorem text_mk : ∀ {L : List (List UInt8)}, (∀ x ∈ L, lnP x = true ∧ isC (mkB x).code = true) → textL (L.map mkB) = L.flatten
  | [], _ => rfl
  | x :: r, h => by
    have ih := text_mk (L := r) fun y hy => h y (by simp [hy])
    unfold textL at ih ⊢
    rw [List.map_cons, List.flatMap_cons, ih, List.flatten_cons, line_back (h x (by simp)).1 (h x (by simp)).2]
/-- A text read and written. -/
theorem text_back {s : ByteArray} {l : List Bar} (hg : ∀ x ∈ lnz s.data.toList, lnP x = true) (hv : validL l = true) (hn : l.map nrm = (lnz s.data.toList).map mkB) : (⟨(textL l).toArray⟩ : ByteArray) = s := by
  refine ba_inj ?_
  rw [← textL_nrm, hn, text_mk fun x hx => ⟨hg x hx, ?_⟩, lnz_flat]
  obtain ⟨b, hb, e⟩ := List.mem_map.1 (show mkB x ∈ l.map nrm by rw [hn]; exact List.mem_map_of_mem hx)
  rw [← e]
  exact (barB_and ((valid_all hv).2 b hb)).1
theorem oks_all (p : List UInt8 → Bool) : ∀ {L : List (List UInt8)}, oks p L = L.length → ∀ x ∈ L, p x = true
  | [], _, x, h => by cases h
  | y :: r, e, x, h => by
    unfold oks at e
    split at e
    · rename_i hy
      rcases List.mem_cons.1 h with rfl | h
      · exact hy
      · exact oks_all p (by simpa using e) x h
    · simp at e
end Go.Proofs.YthdafpbmmfelpaaGreatDoor
namespace Go.Proofs.YthdafpbmmfelpaaGreatDoor
open Go.ChangeShapes Go.WideShapes Go.ChangeAt Go.RowKit Dec
set_option linter.unusedVariables false
set_option linter.unusedSimpArgs false


theorem valid_mark {l : List Bar} (hv : validL l = true) : ∀ b ∈ l, b.mark.size ≤ 60 ∧ b.ds.length ≤ 1000 := fun b hb => by
  obtain ⟨hC, hln, hft, hnm, -⟩ := barB_and ((valid_all hv).2 b hb)
  have h1 := (name_pln hnm).2
  have h2 : b.mark.data.toList.length = b.mark.size := by simp
  have h3 := ndim_le b.code
  omega
theorem nrm_nrm (l : List Bar) : (l.map nrm).map nrm = l.map nrm := by rw [List.map_map]; rfl
theorem mk_nrm (L : List (List UInt8)) : (L.map mkB).map nrm = L.map mkB := by rw [List.map_map]; rfl
/-- Parse of a text that is refused. -/
theorem Parse_err (s : ByteArray) (w : World) (hs : s.size ≤ 262144) (hC : Cut1 w) (hF : Frm w) (h : oks lnP (lnz s.data.toList) = (lnz s.data.toList).length → validL ((lnz s.data.toList).map mkB) = false) :
    Calls Tryz.prog 20 #[.string s] w fun e w' => ∃ q r er, e = .returned (.tuple #[.slice none 0 0, .agg #[.int .i64 q, .int .i64 r], .int .i64 er]) ∧ (er != 0) = true ∧ Below w.heap.size w w' := by
  refine (Parse_any s w hs hC hF).mono fun e w' R => ?_
  rcases Nat.lt_or_ge (oks lnP (lnz s.data.toList)) (lnz s.data.toList).length with h1 | h1
  · exact ⟨_, _, _, R.no h1, rfl, R.hb⟩
  · have h2 : oks lnP (lnz s.data.toList) = (lnz s.data.toList).length := Nat.le_antisymm (oks_le _ _) h1
    exact ⟨_, _, _, R.bad h2 (h h2), rfl, R.hb⟩
/-- Parse of a text that is taken. -/
theorem Parse_ok (s : ByteArray) (w : World) (hs : s.size ≤ 262144) (hC : Cut1 w) (hF : Frm w) (h : oks lnP (lnz s.data.toList) = (lnz s.data.toList).length) (hv : validL ((lnz s.data.toList).map mkB) = true) :
    Calls Tryz.prog 20 #[.string s] w fun e w' => ∃ p l c, e = .returned (.tuple #[.slice p l.length c, .agg #[.int .i64 0, .int .i64 0], .int .i64 0]) ∧ Slb w' p l c ∧ validL l = true ∧ l.map nrm = (lnz s.data.toList).map mkB ∧ Below w.heap.size w w' := by
  refine (Parse_any s w hs hC hF).mono fun e w' R => ?_
  obtain ⟨v, l, h1, h2, h3, h4⟩ := R.ok h hv
  obtain ⟨p, c, rfl, hS⟩ := Own.slb h2 h3
  exact ⟨p, l, c, h1, hS, valid_nrm (by rw [h4, mk_nrm]) hv, h4, R.hb⟩
set_option maxHeartbeats 8000000 in
set_option maxRecDepth 100000 in
theorem back_walk (p : Option Addr) (l : List Bar) (cap : Nat) (s : ByteArray) (w : World) (hS : Slb w p l cap) (hsz : s.size ≤ maxLen) (hT : Tab w) (hC : Cut1 w) (hF : Frm w) :
    Calls Tryz.prog 7 #[.slice p l.length cap, .string s] w fun e w' => e = .returned (.bool true) ∧ Below w.heap.size w w' := by
  have few1 := few_one p l cap
  cases hs : smallL l
  · rw [hs] at few1
    go_enter Tryz.func7, Tryz.ntmps7
    go_wp2_with (first
      | (go_at_call 10; (with_reducible refine (awake_any _ hT).mono ?_); rintro X w1 ⟨rfl, hb1⟩; have h11 := few1 w1 (hS.on hb1))
      | (go_at_call 11; (with_reducible refine h11.mono ?_); rintro X w2 ⟨rfl, rfl⟩; have B2 := al hb1 (.cells #[.slice p l.length cap] 22)))
    go_ret
    exact ⟨rfl, B2⟩
  rw [hs] at few1
  clear hs
  by_cases h2k : s.size > 2000
  · have g1 : decide ((s.size : Int) > 2000) = true := by simp; omega
    clear h2k
    go_enter Tryz.func7, Tryz.ntmps7
    go_wp2_with (first
      | (go_at_call 10; (with_reducible refine (awake_any _ hT).mono ?_); rintro X w1 ⟨rfl, hb1⟩; have h11 := few1 w1 (hS.on hb1))
      | (go_at_call 11; (with_reducible refine h11.mono ?_); rintro X w2 ⟨rfl, rfl⟩; have B2 := al hb1 (.cells #[.slice p l.length cap] 22)))
    go_ret
    exact ⟨rfl, B2⟩
  have g1 : decide ((s.size : Int) > 2000) = false := by simp; omega
  cases hv : validL l
  · have h18 := fun W (h : Below w.heap.size w W) => Text_no p l cap W (hS.on h) hv
    go_enter Tryz.func7, Tryz.ntmps7
    go_upto_region 10 with (first
      | (go_at_call 10; (with_reducible refine (awake_any _ hT).mono ?_); rintro X w1 ⟨rfl, hb1⟩; have h11 := few1 w1 (hS.on hb1))
      | (go_at_call 11; (with_reducible refine h11.mono ?_); rintro X w2 ⟨rfl, rfl⟩; have B2 := al hb1 (.cells #[.slice p l.length cap] 22))
      | (go_at_call 18; (with_reducible refine (h18 _ B2).mono ?_); rintro X w3 ⟨rfl, hb⟩; have B3 := belows B2 hb; clear hb))
    clear h18 few1 h11
    by_cases hok : oks lnP (lnz s.data.toList) = (lnz s.data.toList).length ∧ validL ((lnz s.data.toList).map mkB) = true
    · have h20 := Parse_ok s _ (by omega) (hC.on B3) (hF.on B3) hok.1 hok.2
      go_upto_region 13 with (go_at_call 20; (with_reducible refine h20.mono ?_); rintro X w6 ⟨p2, l2, c2, rfl, hS2, hv2, hn2, hb6⟩)
      have B6 := belows B3 hb6
      have hN6 := hS2.on (al1 w6 (.cells #[.int .i64 0, .int .i64 0] 37))
      have BN := al B6 (.cells #[.int .i64 0, .int .i64 0] 37)
      generalize w6.alloc (.cells #[.int .i64 0, .int .i64 0] 37) = w7 at *
      have h18 := Text_ok p2 l2 c2 w7 hN6 hv2 (fun b hb => (valid_mark hv2 b hb).1) (hT.on BN)
      rw [text_back (oks_all lnP hok.1) hv2 hn2] at h18
      have h15 := fun W (h : Below w7.heap.size w7 W) => Valid_list p2 l2 c2 W (hN6.on h)
      rw [hv2] at h15
      clear hok h20 hS2 hn2 hb6 B6
      go_wp2_with (first
        | (go_at_call 18; (with_reducible refine h18.mono ?_); rintro X w8 ⟨rfl, hb8⟩)
        | (go_at_call 15; (with_reducible refine (h15 _ hb8).mono ?_); rintro X w9 ⟨rfl, hb9⟩))
      go_ret
      exact ⟨rfl, belows (belows BN hb8) hb9⟩
    · have h20 := Parse_err s _ (by omega) (hC.on B3) (hF.on B3) (fun h => by
        cases hv : validL ((lnz s.data.toList).map mkB)
        · rfl
        · exact absurd ⟨h, hv⟩ hok)
      clear hok
      go_wp2_with (go_at_call 20; (with_reducible refine h20.mono ?_); rintro X w6 ⟨q, r, er, rfl, her, hb6⟩)
      go_ret
      exact ⟨rfl, al (belows B3 hb6) _⟩
  · obtain ⟨hl60, hvb⟩ := valid_all hv
    have h18 := fun W (h : Below w.heap.size w W) => Text_ok p l cap W (hS.on h) hv (fun b hb => (valid_mark hv b hb).1) (hT.on h)
    have htx : (⟨(textL l).toArray⟩ : ByteArray).size ≤ 262144 := by
      have h1 := text_le hvb fun b hb => (valid_mark hv b hb).1
      have h2 : (⟨(textL l).toArray⟩ : ByteArray).size = (textL l).length := by simp [ByteArray.size]
      have : l.length * 550 ≤ 60 * 550 := Nat.mul_le_mul_right _ hl60
      omega
    obtain ⟨hk1, hk2⟩ := text_read hvb
    have h20a := fun W (h : Below w.heap.size w W) => Parse_ok ⟨(textL l).toArray⟩ W htx (hC.on h) (hF.on h) hk1 (by
      show validL ((lnz (textL l)).map mkB) = true
      rw [hk2]; exact valid_nrm (nrm_nrm l) hv)
    have hk3 : (lnz (⟨(textL l).toArray⟩ : ByteArray).data.toList).map mkB = l.map nrm := hk2
    rw [hk3] at h20a
    clear hk1 hk2 hk3 htx
    generalize (⟨(textL l).toArray⟩ : ByteArray) = tx at *
    go_enter Tryz.func7, Tryz.ntmps7
    go_upto_region 8 with (first
      | (go_at_call 10; (with_reducible refine (awake_any _ hT).mono ?_); rintro X w1 ⟨rfl, hb1⟩; have h11 := few1 w1 (hS.on hb1))
      | (go_at_call 11; (with_reducible refine h11.mono ?_); rintro X w2 ⟨rfl, rfl⟩; have B2 := al hb1 (.cells #[.slice p l.length cap] 22))
      | (go_at_call 18; (with_reducible refine (h18 _ B2).mono ?_); rintro X w3 ⟨rfl, hb⟩; have B3 := belows B2 hb; clear hb)
      | (go_at_call 20; (with_reducible refine (h20a _ B3).mono ?_); rintro X w4 ⟨p1, l1, c1, rfl, hS1, hv1, hn1, hb⟩; have B4 := belows B3 hb; clear hb))
    have HN := Has.new_ w4 37 #[.int .i64 0, .int .i64 0]
    have R0 : (w4.alloc (.cells #[.int .i64 0, .int .i64 0] 37)).cell? ⟨w4.heap.size, 0, none⟩ = some (.int .i64 0) := HN.read 0
    have R1 : (w4.alloc (.cells #[.int .i64 0, .int .i64 0] 37)).cell? ⟨w4.heap.size, 1, none⟩ = some (.int .i64 0) := HN.read 1
    have B5 := al B4 (.cells #[.int .i64 0, .int .i64 0] 37)
    have hS5 := hS1.on (al1 w4 (.cells #[.int .i64 0, .int .i64 0] 37))
    generalize w4.alloc (.cells #[.int .i64 0, .int .i64 0] 37) = w5 at *
    generalize w4.heap.size = M at *
    have h22 := rSame_list p1 p l1 l c1 cap w5 hS5 (hS.on B5) (fun x hx => (valid_mark hv1 x hx).2)
    clear h18 h20a few1 h11 HN hS1 hS5 hv1 B3 B4
    go_upto_region 10 with (go_at_call 22; (with_reducible refine h22.mono ?_); rintro X w5b ⟨R, rfl, hR, hb5⟩; obtain rfl := hR.2 hn1; have B7 := belows B5 hb5; clear hb5)
    clear h22 B5 R0 R1 hn1 hR
    generalize Value.tuple #[Value.slice p1 l1.length c1, Value.agg #[Value.int IntKind.i64 0, Value.int IntKind.i64 0], Value.int IntKind.i64 0] = z2
    generalize Value.tuple #[Value.string tx, Value.int IntKind.i64 0] = z1
    generalize Value.agg #[Value.int IntKind.i64 0, Value.int IntKind.i64 0] = z3
    generalize Value.slice p1 l1.length c1 = z4
    generalize Value.pointer (some ({ block := M, off := 0 } : Addr)) = z5
    generalize Value.slice (some ({ block := w1.heap.size, off := 0 } : Addr)) 1 1 = z6
    generalize Value.string tx = z7
    clear hvb
    by_cases hok : oks lnP (lnz s.data.toList) = (lnz s.data.toList).length ∧ validL ((lnz s.data.toList).map mkB) = true
    · have h20 := Parse_ok s _ (by omega) (hC.on B7) (hF.on B7) hok.1 hok.2
      go_upto_region 13 with (go_at_call 20; (with_reducible refine h20.mono ?_); rintro X w6 ⟨p2, l2, c2, rfl, hS2, hv2, hn2, hb6⟩)
      have B6 := belows B7 hb6
      have hN6 := hS2.on (al1 w6 (.cells #[.int .i64 0, .int .i64 0] 37))
      have BN := al B6 (.cells #[.int .i64 0, .int .i64 0] 37)
      generalize w6.alloc (.cells #[.int .i64 0, .int .i64 0] 37) = w7 at *
      have h18 := Text_ok p2 l2 c2 w7 hN6 hv2 (fun b hb => (valid_mark hv2 b hb).1) (hT.on BN)
      rw [text_back (oks_all lnP hok.1) hv2 hn2] at h18
      have h15 := fun W (h : Below w7.heap.size w7 W) => Valid_list p2 l2 c2 W (hN6.on h)
      rw [hv2] at h15
      clear hok h20 hS2 hn2 hb6 B6
      go_wp2_with (first
        | (go_at_call 18; (with_reducible refine h18.mono ?_); rintro X w8 ⟨rfl, hb8⟩)
        | (go_at_call 15; (with_reducible refine (h15 _ hb8).mono ?_); rintro X w9 ⟨rfl, hb9⟩))
      go_ret
      exact ⟨rfl, belows (belows BN hb8) hb9⟩
    · have h20 := Parse_err s _ (by omega) (hC.on B7) (hF.on B7) (fun h => by
        cases hv : validL ((lnz s.data.toList).map mkB)
        · rfl
        · exact absurd ⟨h, hv⟩ hok)
      clear hok
      go_wp2_with (go_at_call 20; (with_reducible refine h20.mono ?_); rintro X w6 ⟨q, r, er, rfl, her, hb6⟩)
      go_ret
      exact ⟨rfl, al (belows B7 hb6) _⟩
end Go.Proofs.YthdafpbmmfelpaaGreatDoor
