/- DecimalTokens returns true: the walk. -/
import Derived.Test.YtkabmmpldanmcaaEq
import Derived.Test.YtkabmmpldanmcaaTk2
namespace Go.Proofs.Ytkabmmpldanmcaa
open Go.ChangeShapes Go.WideShapes Go.ChangeAt Go.RowKit
set_option linter.unusedVariables false

theorem toks_ne : ∀ (f : Nat) (l : List UInt8) (ln co : Nat) (ts : List Tok), toks f l ln co = .good ts → 0 < ts.length := by
  intro f
  induction f with
  | zero => intro l ln co ts h; simp [toks] at h; rw [← h]; simp
  | succ f ih =>
    intro l ln co ts h
    cases l with
    | nil => simp [toks] at h; rw [← h]; simp
    | cons c r =>
      rw [toks] at h
      split at h
      · cases h
      · split at h
        · exact ih _ _ _ _ h
        · split at h
          · cases hr : toks f ((c :: r).drop (firstL (c :: r)).2) (ln + 1) 1 with
            | bad a b => rw [hr] at h; cases h
            | good l2 => rw [hr] at h; simp only [Res.put] at h; injection h with h; rw [← h]; simp
          · cases hr : toks f ((c :: r).drop (firstL (c :: r)).2) ln (co + (firstL (c :: r)).2) with
            | bad a b => rw [hr] at h; cases h
            | good l2 => rw [hr] at h; simp only [Res.put] at h; injection h with h; rw [← h]; simp
theorem T_ne {l : List UInt8} {ln co : Nat} {ts : List Tok} (h : T l ln co = .good ts) : 0 < ts.length := toks_ne _ _ _ _ _ h

/-- A list of tokens, in memory. -/
def GoodRet (ts : List Tok) (w : World) (e : Ending) (w' : World) : Prop :=
  ∃ g cap : Nat, e = .returned (.tuple #[.slice (some ⟨g, 0, none⟩) ts.length cap, .agg #[.int .i64 0, .int .i64 0], .int .i64 0]) ∧ Below w.heap.size w w' ∧ Toks w' g ts ∧ g < w'.heap.size
def BadPos (ln co : Nat) (w : World) (e : Ending) (w' : World) : Prop :=
  e = .returned (.tuple #[.slice none 0 0, .agg #[.int .i64 ln, .int .i64 co], .int .i64 7]) ∧ Below w.heap.size w w'

theorem tok_good (s : ByteArray) (ts : List Tok) (w : World) (hs : s.size ≤ 262144) (h : T s.data.toList 1 1 = .good ts) : Calls Try.prog 18 #[.string s] w (GoodRet ts w) := by
  refine (tokens_any s w hs).mono fun e w' ⟨hb, hm⟩ => ?_
  rw [h] at hm
  obtain ⟨v, he, hown⟩ := hm
  obtain ⟨g, cap, rfl, hg, hc⟩ := own_cells hown (T_ne h)
  exact ⟨g, cap, he, hb, hc, hg⟩
theorem tok_bad (s : ByteArray) (ln co : Nat) (w : World) (hs : s.size ≤ 262144) (h : T s.data.toList 1 1 = .bad ln co) : Calls Try.prog 18 #[.string s] w (BadPos ln co w) := by
  refine (tokens_any s w hs).mono fun e w' ⟨hb, hm⟩ => ?_
  rw [h] at hm
  exact ⟨hm, hb⟩
theorem rtok_good (s : ByteArray) (ts : List Tok) (w : World) (hs : s.size ≤ 262144) (h : T s.data.toList 1 1 = .good ts) : Calls Try.prog 19 #[.string s] w (GoodRet ts w) := by
  refine (rtokens_any s w hs).mono fun e w' ⟨hb, hm⟩ => ?_
  rw [h] at hm
  obtain ⟨v, he, hown⟩ := hm
  obtain ⟨g, cap, rfl, hg, hc⟩ := own_cells hown (T_ne h)
  exact ⟨g, cap, he, hb, hc, hg⟩
theorem rtok_bad (s : ByteArray) (ln co : Nat) (w : World) (hs : s.size ≤ 262144) (h : T s.data.toList 1 1 = .bad ln co) : Calls Try.prog 19 #[.string s] w (BadPos ln co w) := by
  refine (rtokens_any s w hs).mono fun e w' ⟨hb, hm⟩ => ?_
  rw [h] at hm
  exact ⟨hm, hb⟩

theorem toks_alloc {w : World} {g : Nat} {ts : List Tok} (h : Toks w g ts) (hg : g < w.heap.size) (o : Obj) : Toks (w.alloc o) g ts :=
  fun j u hj => (World.cell?_alloc_lt w o ⟨g, j, none⟩ hg).trans (h j u hj)
theorem toks_below {w w' : World} {g B : Nat} {ts : List Tok} (h : Toks w g ts) (hb : Below B w w') (hg : g < B) : Toks w' g ts :=
  fun j u hj => (hb.cell (p := ⟨g, j, none⟩) hg).trans (h j u hj)

theorem toks_len (f : Nat) : ∀ (l : List UInt8) (ln co : Nat) (ts : List Tok), toks f l ln co = .good ts → ts.length ≤ f + 1 := by
  induction f with
  | zero => intro l ln co ts h; simp [toks] at h; rw [← h]; simp
  | succ f ih =>
    intro l ln co ts h
    cases l with
    | nil => simp [toks] at h; rw [← h]; simp
    | cons c r =>
      rw [toks] at h
      split at h
      · cases h
      · split at h
        · have := ih _ _ _ _ h; omega
        · split at h
          · cases hr : toks f ((c :: r).drop (firstL (c :: r)).2) (ln + 1) 1 with
            | bad a b => rw [hr] at h; cases h
            | good l2 => rw [hr] at h; simp only [Res.put] at h; injection h with h; rw [← h]; have := ih _ _ _ _ hr; simp; omega
          · cases hr : toks f ((c :: r).drop (firstL (c :: r)).2) ln (co + (firstL (c :: r)).2) with
            | bad a b => rw [hr] at h; cases h
            | good l2 => rw [hr] at h; simp only [Res.put] at h; injection h with h; rw [← h]; have := ih _ _ _ _ hr; simp; omega

theorem alloc_below {a b c : World} (h : Below a.heap.size a b) (o : Obj) (h2 : Below (b.alloc o).heap.size (b.alloc o) c) : Below a.heap.size a c :=
  (h.alloc h.size o).trans (h2.mono (by have := h.size; simp; omega))

theorem tokens_walk (s : ByteArray) (w : World) (hs : s.size ≤ maxLen) : Calls Try.prog 6 #[.string s] w fun e w' => e = .returned (.bool true) ∧ Below w.heap.size w w' := by
  by_cases hl : 1000 < s.size
  · unfold maxLen at hs
    have t1 : (1000 : Int) < s.size := by omega
    go_enter Try.func6, Try.ntmps6
    go_wp2_with (go_at_call 10; refine (awake_any _).mono ?_; rintro e w1 ⟨rfl, hb1⟩)
    go_ret
    exact ⟨rfl, hb1⟩
  · have hm := Lib.hid hs
    clear hs
    have t1 : ¬ (1000 : Int) < s.size := by omega
    have hsz : s.size ≤ 262144 := by omega
    cases hT : T s.data.toList 1 1 with
    | bad ln co =>
      have HT := Lib.hid hT; clear hT
      go_enter Try.func6, Try.ntmps6
      go_wp2_with (first | (go_at_call 10; refine (awake_any _).mono ?_; rintro e w1 ⟨rfl, hb1⟩) | (go_at_call 18; fail))
      refine (tok_bad s ln co _ hsz HT.out).mono ?_
      rintro e w2 ⟨rfl, hb2⟩
      go_wp2_with fail
      refine (rtok_bad s ln co _ hsz HT.out).mono ?_
      rintro e w4 ⟨rfl, hb4⟩
      have h24 := hb4.size
      have p0 : w4.cell? ⟨w2.heap.size, 0, none⟩ = some (.int .i64 ln) := (hb4.cell (p := ⟨w2.heap.size, 0, none⟩) (by simp)).trans ((Has.new_ w2 38 _).read 0)
      have p1 : w4.cell? ⟨w2.heap.size, 1, none⟩ = some (.int .i64 co) := (hb4.cell (p := ⟨w2.heap.size, 1, none⟩) (by simp)).trans ((Has.new_ w2 38 _).read 1)
      have hlt : w2.heap.size < w4.heap.size := by simp at h24; omega
      go_wp2_with fail
      refine (equal_nil _).mono ?_
      rintro e w5 ⟨rfl, n, rfl⟩
      have hall := alloc_below (alloc_below (belows hb1 hb2) (.cells #[.int .i64 ln, .int .i64 co] 38) hb4) (.cells #[.int .i64 ln, .int .i64 co] 38) (Below.refl _ _)
      have HALL := Lib.hid hall
      clear hall hb1 hb2 hb4 h24
      go_wp2_with (first | (go_at_call 21; refine (isName_any _ _ hm.out).mono ?_; rintro e w' ⟨rfl, rfl⟩) | (go_at_call 22; refine (risName_any _ _ hm.out).mono ?_; rintro e w' ⟨rfl, rfl⟩))
      go_ret
      exact ⟨rfl, below_drewN HALL.out _⟩
    | good ts =>
      have hle := toks_len _ _ _ _ _ hT
      have hln : s.data.toList.length = s.size := by simp
      rw [hln] at hle
      have HT := Lib.hid hT; clear hT hln
      go_enter Try.func6, Try.ntmps6
      go_wp2_with (first | (go_at_call 10; refine (awake_any _).mono ?_; rintro e w1 ⟨rfl, hb1⟩) | (go_at_call 18; fail))
      refine (tok_good s ts _ hsz HT.out).mono ?_
      rintro e w2 ⟨g1, c1, rfl, hb2, ht1, hg1⟩
      have HT1 := Lib.hid ht1; clear ht1
      go_wp2_with fail
      refine (rtok_good s ts _ hsz HT.out).mono ?_
      rintro e w4 ⟨g2, c2, rfl, hb4, ht2, hg2⟩
      have h24 := hb4.size
      have p0 : w4.cell? ⟨w2.heap.size, 0, none⟩ = some (.int .i64 0) := (hb4.cell (p := ⟨w2.heap.size, 0, none⟩) (by simp)).trans ((Has.new_ w2 38 _).read 0)
      have p1 : w4.cell? ⟨w2.heap.size, 1, none⟩ = some (.int .i64 0) := (hb4.cell (p := ⟨w2.heap.size, 1, none⟩) (by simp)).trans ((Has.new_ w2 38 _).read 1)
      have hlt : w2.heap.size < w4.heap.size := by simp at h24; omega
      have ht1 := toks_below (toks_alloc HT1.out hg1 _) hb4 (by simp; omega)
      have HT1b := Lib.hid ht1; have HT2 := Lib.hid ht2; clear ht1 ht2 HT1
      go_wp2_with fail
      refine (equal_same _ g1 g2 c1 c2 ts (toks_alloc HT1b.out (by omega) _) (toks_alloc HT2.out hg2 _) (by omega)).mono ?_
      rintro e w5 ⟨rfl, n, rfl⟩
      have hall := alloc_below (alloc_below (belows hb1 hb2) (.cells #[.int .i64 0, .int .i64 0] 38) hb4) (.cells #[.int .i64 0, .int .i64 0] 38) (Below.refl _ _)
      have HALL := Lib.hid hall
      clear hall hb1 hb2 hb4 h24
      go_wp2_with (first | (go_at_call 21; refine (isName_any _ _ hm.out).mono ?_; rintro e w' ⟨rfl, rfl⟩) | (go_at_call 22; refine (risName_any _ _ hm.out).mono ?_; rintro e w' ⟨rfl, rfl⟩))
      go_ret
      exact ⟨rfl, below_drewN HALL.out _⟩
end Go.Proofs.Ytkabmmpldanmcaa
