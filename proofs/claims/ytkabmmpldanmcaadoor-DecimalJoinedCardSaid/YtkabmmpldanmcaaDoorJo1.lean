/- DecimalTokens returns true: the walk. -/
import Derived.Test.YtkabmmpldanmcaaDoorEq
namespace Go.Proofs.YtkabmmpldanmcaaDoor
open Go.ChangeShapes Go.WideShapes Go.ChangeAt Go.RowKit
set_option linter.unusedVariables false

theorem toks_ne : ∀ (f : Nat) (l : List UInt8) (ln co : Nat) (ts : List Tok), toks f l ln co = .good ts → 0 < ts.length := by
  intro f
  induction f with
  | zero => intro l ln co ts h; simp [toks] at h; rw [← h]; simp
  | succ f ih =>
    intro l ln co ts h
    cases l with
    | nil => simp [toks] at h; rw [← h]; simp
    | cons c r =>
      rw [toks] at h
      split at h
      · cases h
      · split at h
        · exact ih _ _ _ _ h
        · split at h
          · cases hr : toks f ((c :: r).drop (firstL (c :: r)).2) (ln + 1) 1 with
            | bad a b => rw [hr] at h; cases h
            | good l2 => rw [hr] at h; simp only [Res.put] at h; injection h with h; rw [← h]; simp
          · cases hr : toks f ((c :: r).drop (firstL (c :: r)).2) ln (co + (firstL (c :: r)).2) with
            | bad a b => rw [hr] at h; cases h
            | good l2 => rw [hr] at h; simp only [Res.put] at h; injection h with h; rw [← h]; simp
theorem T_ne {l : List UInt8} {ln co : Nat} {ts : List Tok} (h : T l ln co = .good ts) : 0 < ts.length := toks_ne _ _ _ _ _ h

/-- A list of tokens, in memory. -/
def GoodRet (ts : List Tok) (w : World) (e : Ending) (w' : World) : Prop :=
  ∃ g cap : Nat, e = .returned (.tuple #[.slice (some ⟨g, 0, none⟩) ts.length cap, .agg #[.int .i64 0, .int .i64 0], .int .i64 0]) ∧ Below w.heap.size w w' ∧ Toks w' g ts ∧ g < w'.heap.size
def BadPos (ln co : Nat) (w : World) (e : Ending) (w' : World) : Prop :=
  e = .returned (.tuple #[.slice none 0 0, .agg #[.int .i64 ln, .int .i64 co], .int .i64 7]) ∧ Below w.heap.size w w'

theorem tok_good (s : ByteArray) (ts : List Tok) (w : World) (hs : s.size ≤ 262144) (h : T s.data.toList 1 1 = .good ts) : Calls Tryd.prog 5 #[.string s] w (GoodRet ts w) := by
  refine (tokens_any s w hs).mono fun e w' ⟨hb, hm⟩ => ?_
  rw [h] at hm
  obtain ⟨v, he, hown⟩ := hm
  obtain ⟨g, cap, rfl, hg, hc⟩ := own_cells hown (T_ne h)
  exact ⟨g, cap, he, hb, hc, hg⟩
theorem tok_bad (s : ByteArray) (ln co : Nat) (w : World) (hs : s.size ≤ 262144) (h : T s.data.toList 1 1 = .bad ln co) : Calls Tryd.prog 5 #[.string s] w (BadPos ln co w) := by
  refine (tokens_any s w hs).mono fun e w' ⟨hb, hm⟩ => ?_
  rw [h] at hm
  exact ⟨hm, hb⟩
theorem toks_alloc {w : World} {g : Nat} {ts : List Tok} (h : Toks w g ts) (hg : g < w.heap.size) (o : Obj) : Toks (w.alloc o) g ts :=
  fun j u hj => (World.cell?_alloc_lt w o ⟨g, j, none⟩ hg).trans (h j u hj)
theorem toks_below {w w' : World} {g B : Nat} {ts : List Tok} (h : Toks w g ts) (hb : Below B w w') (hg : g < B) : Toks w' g ts :=
  fun j u hj => (hb.cell (p := ⟨g, j, none⟩) hg).trans (h j u hj)

theorem toks_len (f : Nat) : ∀ (l : List UInt8) (ln co : Nat) (ts : List Tok), toks f l ln co = .good ts → ts.length ≤ f + 1 := by
  induction f with
  | zero => intro l ln co ts h; simp [toks] at h; rw [← h]; simp
  | succ f ih =>
    intro l ln co ts h
    cases l with
    | nil => simp [toks] at h; rw [← h]; simp
    | cons c r =>
      rw [toks] at h
      split at h
      · cases h
      · split at h
        · have := ih _ _ _ _ h; omega
        · split at h
          · cases hr : toks f ((c :: r).drop (firstL (c :: r)).2) (ln + 1) 1 with
            | bad a b => rw [hr] at h; cases h
            | good l2 => rw [hr] at h; simp only [Res.put] at h; injection h with h; rw [← h]; have := ih _ _ _ _ hr; simp; omega
          · cases hr : toks f ((c :: r).drop (firstL (c :: r)).2) ln (co + (firstL (c :: r)).2) with
            | bad a b => rw [hr] at h; cases h
            | good l2 => rw [hr] at h; simp only [Res.put] at h; injection h with h; rw [← h]; have := ih _ _ _ _ hr; simp; omega

theorem alloc_below {a b c : World} (h : Below a.heap.size a b) (o : Obj) (h2 : Below (b.alloc o).heap.size (b.alloc o) c) : Below a.heap.size a c :=
  (h.alloc h.size o).trans (h2.mono (by have := h.size; simp; omega))

end Go.Proofs.YtkabmmpldanmcaaDoor
