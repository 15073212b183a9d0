/- The contract of the reference's Tokens. -/
import Derived.Test.YtkabmmpldanmcaaTk1
namespace Go.Proofs.Ytkabmmpldanmcaa
open Go.ChangeShapes Go.WideShapes Go.ChangeAt Go.RowKit
set_option linter.unusedVariables false

theorem own_drewN {w : World} {base : Nat} {e : TypeId} {size n : Nat} {v : Value} {xs : List Value} (h : w.ownsRow base e size v n xs) (k : Nat) : (w.drewN k).ownsRow base e size v n xs := h
theorem undrawN {w w1 : World} {r : Option Nat} {n : Nat} (h : (w.drewN n).grownBy w1 r) : w.grownBy w1 r := ⟨h.os, h.tape, h.output, h.size, h.block⟩

theorem own_lt {w : World} {base : Nat} {e : TypeId} {size n : Nat} {v : Value} {xs : List Value} (h : w.ownsRow base e size v n xs) : ∀ k, v.ownBlock = some k → k < w.heap.size := by
  intro k hk
  rcases h.2 with ⟨rfl, _⟩ | ⟨g, cap, cur, rfl, _, hh, _⟩
  · cases hk
  · simp [Value.ownBlock] at hk; subst hk; exact (Array.getElem?_eq_some_iff.1 hh).1
theorem heap2 (W : World) (o o2 : Obj) : ((W.alloc o).alloc o2).drew.heap[W.heap.size + 1]? = some o2 := by
  have h := heap_alloc_new (W.alloc o) o2
  have e : (W.alloc o).heap.size = W.heap.size + 1 := by simp
  rw [e] at h; exact h

theorem rt_after1 {w wr w1 : World} {v : Value} {o : Obj} {d : Array Value} (hpos : Has wr w.heap.size 38 d) (hbel : Below w.heap.size w wr)
    (hge : ∀ k, v.ownBlock = some k → w.heap.size + 1 ≤ k) (hgrow : (wr.alloc o).grownBy w1 v.ownBlock) : Has w1 w.heap.size 38 d ∧ Below w.heap.size w w1 := by
  have hs := hpos.size_
  refine ⟨(hpos.alloc_ o).grown_ hgrow (fun e => ?_), (hbel.alloc (by omega) o).grown hgrow (by simp; omega) (fun k hk => ?_)⟩
  · have := hge _ e.symm; omega
  · have := hge _ hk; omega
theorem rt_cell (kd : Int) (s : ByteArray) (k z ln st : Nat) (hst : st ≤ k) : [Value.int .i64 kd, .string (s.extract k (k + z)), .int .i64 ln, .int .i64 ((k : Int) - st + 1)] = tcell ⟨kd, (s.data.toList.drop k).take z, ln, k - st + 1⟩ := by
  rw [Lib.extract_eq, show k + z - k = z by omega]
  simp only [tcell]
  rw [show ((k - st + 1 : Nat) : Int) = (k : Int) - st + 1 by omega]

def RtRel (s : ByteArray) (w : World) (v5 v6 v7 v8 : Value) (wr : World) : Prop :=
  ∃ (k : Nat) (ts : List Tok) (ln st : Nat), v8 = .int .i64 k ∧ v6 = .int .i64 ln ∧ v7 = .int .i64 st ∧ k ≤ s.size ∧ st ≤ k ∧ ts.length ≤ k ∧ ln ≤ k + 1 ∧
    wr.ownsRow (w.heap.size + 1) 45 4 v5 ts.length (tcells ts) ∧ Has wr w.heap.size 38 #[.int .i64 0, .int .i64 0] ∧
    Below w.heap.size w wr ∧ (T (s.data.toList.drop k) ln (k - st + 1)).pre ts = T s.data.toList 1 1

def RtPost (s : ByteArray) (w : World) (e : Ending) (w' : World) : Prop :=
  Below w.heap.size w w' ∧
  match T s.data.toList 1 1 with
  | .bad ln co => e = .returned (.tuple #[.slice none 0 0, .agg #[.int .i64 ln, .int .i64 co], .int .i64 7])
  | .good ts => ∃ v, e = .returned (.tuple #[v, .agg #[.int .i64 0, .int .i64 0], .int .i64 0]) ∧ w'.ownsRow (w.heap.size + 1) 45 4 v ts.length (tcells ts)

/-- Nothing has changed but the count of draws. -/
def QW (w w' : World) : Prop := ∃ n, w' = w.drewN n
theorem QW.facts {s : ByteArray} {w wr W : World} {v : Value} {ts : List Tok} (h : QW wr W) (hown : wr.ownsRow (w.heap.size + 1) 45 4 v ts.length (tcells ts)) (hpos : Has wr w.heap.size 38 #[.int .i64 0, .int .i64 0]) (hbel : Below w.heap.size w wr) :
    W.ownsRow (w.heap.size + 1) 45 4 v ts.length (tcells ts) ∧ Has W w.heap.size 38 #[.int .i64 0, .int .i64 0] ∧ Below w.heap.size w W := by
  obtain ⟨n, rfl⟩ := h
  exact ⟨hown, hpos, ⟨hbel.os, hbel.tape, hbel.output, hbel.size, hbel.block⟩⟩

theorem next_is (s : ByteArray) (i : Nat) (w : World) (k : Int) (z : Nat) (hs : s.size ≤ maxLen) (hsm : s.size ≤ 1000000000) (h0 : i < s.size) (hk : firstL (s.data.toList.drop i) = (k, z)) (hb : k ≠ -1) :
    Calls Try.prog 36 #[.string s, .int .i64 i] w fun e w' => e = .returned (.tuple #[.int .i64 k, .int .i64 ((i : Int) + z)]) ∧ QW w w' := by
  have h := next_any s i w hs hsm h0
  rw [hk] at h
  refine h.mono fun e w' ⟨⟨en, he, hd⟩, hw⟩ => ⟨?_, hw⟩
  rcases hd with hd | hd
  · exact absurd hd hb
  · rw [he, hd]

def BadRet (w : World) (e : Ending) (w' : World) : Prop := ∃ en : Int, e = .returned (.tuple #[.int .i64 (-1), .int .i64 en]) ∧ QW w w'
theorem next_bad_is (s : ByteArray) (i : Nat) (w : World) (z : Nat) (hs : s.size ≤ maxLen) (hsm : s.size ≤ 1000000000) (h0 : i < s.size) (hk : firstL (s.data.toList.drop i) = (-1, z)) :
    Calls Try.prog 36 #[.string s, .int .i64 i] w (BadRet w) := by
  have h := next_any s i w hs hsm h0
  rw [hk] at h
  exact h.mono fun e w' ⟨⟨en, he, hd⟩, hw⟩ => ⟨en, he, hw⟩

theorem rt_after {w wr w1 : World} {v : Value} {o o2 : Obj} {d : Array Value} (hpos : Has wr w.heap.size 38 d) (hbel : Below w.heap.size w wr)
    (hge : ∀ k, v.ownBlock = some k → w.heap.size + 1 ≤ k) (hgrow : ((wr.alloc o).alloc o2).grownBy w1 v.ownBlock) : Has w1 w.heap.size 38 d ∧ Below w.heap.size w w1 := by
  have hs := hpos.size_
  refine ⟨((hpos.alloc_ o).alloc_ o2).grown_ hgrow (fun e => ?_), ((hbel.alloc (by omega) o).alloc (by simp; omega) o2).grown hgrow (by simp; omega) (fun k hk => ?_)⟩
  · have := hge _ e.symm; omega
  · have := hge _ hk; omega

theorem rt_mk {s : ByteArray} {w W : World} {v5 : Value} {ts : List Tok} {k z ln st : Nat} {a b c : Int} (hown : W.ownsRow (w.heap.size + 1) 45 4 v5 ts.length (tcells ts))
    (hpos : Has W w.heap.size 38 #[.int .i64 0, .int .i64 0]) (hbel : Below w.heap.size w W) (ha : a = (k : Int) + z) (hb : b = ln) (hc : c = st)
    (hT : (T ((s.data.toList.drop k).drop z) ln (k + z - st + 1)).pre ts = T s.data.toList 1 1) (z1 : 1 ≤ z) (z2 : k + z ≤ s.size) (b0 : st ≤ k + z) (b1 : ts.length ≤ k + z) (b2 : ln ≤ k + z + 1) :
    RtRel s w v5 (.int .i64 b) (.int .i64 c) (.int .i64 a) W ∧ s.size - (intOf (.int .i64 a)).toNat < s.size - (intOf (.int .i64 k)).toNat := by
  refine ⟨⟨k + z, ts, ln, st, by rw [ha]; rfl, by rw [hb], by rw [hc], z2, b0, b1, b2, hown, hpos, hbel, ?_⟩, ?_⟩
  · rw [← List.drop_drop]; exact hT
  · simp [intOf]; omega

theorem rpost_bad {s : ByteArray} {w W : World} {ts : List Tok} {ln co : Nat} {a b : Int} (ha : a = ln) (hb : b = co) (hbel : Below w.heap.size w W) (hT : (Res.bad ln co).pre ts = T s.data.toList 1 1) :
    RtPost s w (.returned (.tuple #[.slice none 0 0, .agg #[.int .i64 a, .int .i64 b], .int .i64 7])) W := by
  refine ⟨hbel, ?_⟩
  rw [← hT, ha, hb]; rfl
theorem rpost_good {s : ByteArray} {w W : World} {ts : List Tok} {v : Value} (hbel : Below w.heap.size w W) (hT : (Res.good ts) = T s.data.toList 1 1) (hown : W.ownsRow (w.heap.size + 1) 45 4 v ts.length (tcells ts)) :
    RtPost s w (.returned (.tuple #[v, .agg #[.int .i64 0, .int .i64 0], .int .i64 0])) W := by
  refine ⟨hbel, ?_⟩
  rw [← hT]; exact ⟨v, rfl, hown⟩

set_option maxHeartbeats 4000000 in
theorem rtokens_any (s : ByteArray) (w : World) (hs : s.size ≤ 262144) :
    Calls Try.prog 19 #[.string s] w (RtPost s w) := by
  have hm : Hid (s.size ≤ maxLen) := by show s.size ≤ maxLen; unfold maxLen; omega
  go_enter Try.func19, Try.ntmps19
  go_wp2
  go_loopw [5, 6, 7, 8] (fun v5 v6 v7 v8 wr => RtRel s w v5 v6 v7 v8 wr) (fun _ _ _ i _ => s.size - (intOf i).toNat)
  case atStart =>
    refine ⟨0, [], 1, 0, rfl, rfl, rfl, by omega, by omega, by simp, by omega, World.ownsRow_nil _ _ _ _, Has.new_ w 38 _, (Below.refl _ _).alloc (Nat.le_refl _) _, Res.pre_nil _⟩
  case round =>
    obtain ⟨k, ts, ln, st, rfl, rfl, rfl, hk, hst, hts, hln, hown, hpos, hbel, hT⟩ := hrel
    have HT := Lib.hid hT; clear hT
    have hlr : (s.data.toList.drop k).length = s.size - k := by simp
    have hge := own_ge hown
    have hwr := hpos.size_
    obtain ⟨i0, hi0, hz0, hz1, hz2⟩ := info_parts info45
    by_cases h0 : k < s.size
    · obtain ⟨kd, z, hkz⟩ : ∃ kd z, firstL (s.data.toList.drop k) = (kd, z) := ⟨_, _, rfl⟩
      have hT2 := T_step (l := s.data.toList.drop k) (by omega) ln (k - st + 1)
      have hfl := firstL_len (l := s.data.toList.drop k) (by omega)
      rw [hkz] at hT2 hfl
      rw [hlr] at hfl
      clear hlr
      have HK := Lib.hid hkz; have HT2 := Lib.hid hT2; clear hkz hT2
      obtain ⟨hkd, h4, hsz⟩ := hfl
      rcases hkd with rfl | rfl | rfl | rfl | rfl | rfl
      · clear h4 hsz
        go_wp2_with (go_at_call 36; refine (next_bad_is _ _ _ _ hm.out (by omega) h0 HK.out).mono ?_; rintro e W ⟨en, rfl, hq⟩; obtain ⟨hown2, hpos2, hbel2⟩ := hq.facts (s := s) hown hpos hbel; have d0 : W.cell? ⟨w.heap.size, 0, none⟩ = some (.int .i64 0) := hpos2.read 0; have d1 : W.cell? ⟨w.heap.size, 1, none⟩ = some (.int .i64 0) := hpos2.read 1; have g0 := hpos2.open_ 0; have g1 := hpos2.open_ 1; have hlt := hpos2.size_; clear hown hpos hbel hwr hq)
        go_region
        go_wp2
        have q0 := (((hpos2.put_ 0 (.int .i64 ln)).put_ 1 (.int .i64 ((k : Int) - st + 1))).alloc_ (.cells #[.int .i64 ln, .int .i64 ((k : Int) - st + 1)] 38)).read 0
        have q1 := (((hpos2.put_ 0 (.int .i64 ln)).put_ 1 (.int .i64 ((k : Int) - st + 1))).alloc_ (.cells #[.int .i64 ln, .int .i64 ((k : Int) - st + 1)] 38)).read 1
        refine bodyPost_ret (v := .tuple #[.slice none 0 0, .agg #[.int .i64 ln, .int .i64 ((k : Int) - st + 1)], .int .i64 7]) (by simp [results, Try.results19, go_sem] at q0 q1 ⊢; simp [q0, q1]) rfl ?_
        exact rpost_bad (co := k - st + 1) rfl (by omega) ((((hbel2.setCell (Nat.le_refl _) _).setCell (Nat.le_refl _) _).alloc (by simp; omega) _).drew) (by rw [← HT.out, HT2.out]; rfl)
      · obtain ⟨z1, z2⟩ := hsz (by simp)
        clear h4 hsz
        go_wp2_with (go_at_call 36; refine (next_is _ _ _ _ _ hm.out (by omega) h0 HK.out (by simp)).mono ?_; rintro e W ⟨rfl, hq⟩; obtain ⟨hown2, hpos2, hbel2⟩ := hq.facts (s := s) hown hpos hbel; have hlt := hpos2.size_; clear hown hpos hbel hwr hq)
        exact rt_mk (ln := ln) (st := st) (hown2.alloc _) (hpos2.alloc_ _) (hbel2.alloc (by omega) _) rfl rfl rfl (by rw [← HT.out, HT2.out]; rw [show k + z - st + 1 = k - st + 1 + z by omega]; rfl) z1 (by omega) (by omega) (by omega) (by omega)
      · obtain ⟨z1, z2⟩ := hsz (by simp)
        clear h4 hsz
        have y0 : (0 : Int) ≤ (k : Int) + z := by omega
        have y1 : (k : Int) ≤ (k : Int) + z := by omega
        have y2 : (k : Int) + z ≤ s.size := by omega
        go_wp2_with (go_at_call 36; refine (next_is _ _ _ _ _ hm.out (by omega) h0 HK.out (by simp)).mono ?_; rintro e W ⟨rfl, hq⟩; obtain ⟨hown2, hpos2, hbel2⟩ := hq.facts (s := s) hown hpos hbel; have hlt := hpos2.size_; have hol := own_lt hown2; clear hown hpos hbel hwr hq)
        go_region_held3 (fun w' => w'.cell? ⟨W.heap.size, 0, none⟩ = some (.int .i64 ln) ∧ w'.cell? ⟨W.heap.size, 1, none⟩ = some (.int .i64 ((k : Int) - st + 1)))
          (first
            | go_keep
            | (go_split_ands
               refine ⟨?_, ?_⟩
               · (rw [hgrow.cell_far _ (by simp; omega) (by intro e; have := hol _ e.symm; simp at this)]; assumption)
               · (rw [hgrow.cell_far _ (by simp; omega) (by intro e; have := hol _ e.symm; simp at this)]; assumption)))
          ((refine step_append_lies _ (by rfl) _ _ _ (by rfl) (w.heap.size + 1) 45 i0 _ 4 40 Try.underlying36 hi0 hz0 hz1 hz2 rfl (by omega) u5 ts.length (tcells ts) (by rfl) (((hown2.alloc _).alloc _).drew)
              ⟨W.heap.size + 1, 0, none⟩ 1 1 [.int .i64 1, .string (s.extract k (k + z)), .int .i64 ln, .int .i64 ((k : Int) - st + 1)] (by rfl) (by rfl) (World.news_of_block (cs := #[.int .i64 1, .string (s.extract k (k + z)), .int .i64 ln, .int .i64 ((k : Int) - st + 1)]) (t := 45) (fr := (0, 0)) (heap2 W _ _)) (by simp [Value.oneCell'])
              (by omega) (by unfold maxLen; omega) (by omega) (by simp; omega) (W.heap.size + 1 + 1) (by simp) ?_; intro gg cap w1 hown1 hgrow hat1 hlt1))
        obtain ⟨hpos3, hbel3⟩ := rt_after hpos2 hbel2 hge (undraw hgrow)
        clear hgrow hat1 hlt1 hown2 hpos2 hbel2 hge hol
        go_wp2
        exact rt_mk (ts := ts ++ [⟨1, (s.data.toList.drop k).take z, ln, k - st + 1⟩]) (ln := ln) (st := st) (own_snoc hown1 (rt_cell _ _ _ _ _ _ hst)) hpos3 hbel3 rfl rfl rfl (by rw [← Res.pre_put, ← HT.out, HT2.out]; rw [show k + z - st + 1 = k - st + 1 + z by omega]; rfl) z1 (by omega) (by omega) (by simp; omega) (by omega)
      · obtain ⟨z1, z2⟩ := hsz (by simp)
        clear h4 hsz
        have y0 : (0 : Int) ≤ (k : Int) + z := by omega
        have y1 : (k : Int) ≤ (k : Int) + z := by omega
        have y2 : (k : Int) + z ≤ s.size := by omega
        go_wp2_with (go_at_call 36; refine (next_is _ _ _ _ _ hm.out (by omega) h0 HK.out (by simp)).mono ?_; rintro e W ⟨rfl, hq⟩; obtain ⟨hown2, hpos2, hbel2⟩ := hq.facts (s := s) hown hpos hbel; have hlt := hpos2.size_; have hol := own_lt hown2; clear hown hpos hbel hwr hq)
        go_region_held3 (fun w' => w'.cell? ⟨W.heap.size, 0, none⟩ = some (.int .i64 ln) ∧ w'.cell? ⟨W.heap.size, 1, none⟩ = some (.int .i64 ((k : Int) - st + 1)))
          (first
            | go_keep
            | (go_split_ands
               refine ⟨?_, ?_⟩
               · (rw [hgrow.cell_far _ (by simp; omega) (by intro e; have := hol _ e.symm; simp at this)]; assumption)
               · (rw [hgrow.cell_far _ (by simp; omega) (by intro e; have := hol _ e.symm; simp at this)]; assumption)))
          ((refine step_append_lies _ (by rfl) _ _ _ (by rfl) (w.heap.size + 1) 45 i0 _ 4 40 Try.underlying36 hi0 hz0 hz1 hz2 rfl (by omega) u5 ts.length (tcells ts) (by rfl) (((hown2.alloc _).alloc _).drew)
              ⟨W.heap.size + 1, 0, none⟩ 1 1 [.int .i64 2, .string (s.extract k (k + z)), .int .i64 ln, .int .i64 ((k : Int) - st + 1)] (by rfl) (by rfl) (World.news_of_block (cs := #[.int .i64 2, .string (s.extract k (k + z)), .int .i64 ln, .int .i64 ((k : Int) - st + 1)]) (t := 45) (fr := (0, 0)) (heap2 W _ _)) (by simp [Value.oneCell'])
              (by omega) (by unfold maxLen; omega) (by omega) (by simp; omega) (W.heap.size + 1 + 1) (by simp) ?_; intro gg cap w1 hown1 hgrow hat1 hlt1))
        obtain ⟨hpos3, hbel3⟩ := rt_after hpos2 hbel2 hge (undraw hgrow)
        clear hgrow hat1 hlt1 hown2 hpos2 hbel2 hge hol
        go_wp2
        exact rt_mk (ts := ts ++ [⟨2, (s.data.toList.drop k).take z, ln, k - st + 1⟩]) (ln := ln) (st := st) (own_snoc hown1 (rt_cell _ _ _ _ _ _ hst)) hpos3 hbel3 rfl rfl rfl (by rw [← Res.pre_put, ← HT.out, HT2.out]; rw [show k + z - st + 1 = k - st + 1 + z by omega]; rfl) z1 (by omega) (by omega) (by simp; omega) (by omega)
      · obtain ⟨z1, z2⟩ := hsz (by simp)
        clear h4 hsz
        have y0 : (0 : Int) ≤ (k : Int) + z := by omega
        have y1 : (k : Int) ≤ (k : Int) + z := by omega
        have y2 : (k : Int) + z ≤ s.size := by omega
        go_wp2_with (go_at_call 36; refine (next_is _ _ _ _ _ hm.out (by omega) h0 HK.out (by simp)).mono ?_; rintro e W ⟨rfl, hq⟩; obtain ⟨hown2, hpos2, hbel2⟩ := hq.facts (s := s) hown hpos hbel; have hlt := hpos2.size_; have hol := own_lt hown2; clear hown hpos hbel hwr hq)
        go_region_held3 (fun w' => w'.cell? ⟨W.heap.size, 0, none⟩ = some (.int .i64 ln) ∧ w'.cell? ⟨W.heap.size, 1, none⟩ = some (.int .i64 ((k : Int) - st + 1)))
          (first
            | go_keep
            | (go_split_ands
               refine ⟨?_, ?_⟩
               · (rw [hgrow.cell_far _ (by simp; omega) (by intro e; have := hol _ e.symm; simp at this)]; assumption)
               · (rw [hgrow.cell_far _ (by simp; omega) (by intro e; have := hol _ e.symm; simp at this)]; assumption)))
          ((refine step_append_lies _ (by rfl) _ _ _ (by rfl) (w.heap.size + 1) 45 i0 _ 4 40 Try.underlying36 hi0 hz0 hz1 hz2 rfl (by omega) u5 ts.length (tcells ts) (by rfl) (((hown2.alloc _).alloc _).drew)
              ⟨W.heap.size + 1, 0, none⟩ 1 1 [.int .i64 3, .string (s.extract k (k + z)), .int .i64 ln, .int .i64 ((k : Int) - st + 1)] (by rfl) (by rfl) (World.news_of_block (cs := #[.int .i64 3, .string (s.extract k (k + z)), .int .i64 ln, .int .i64 ((k : Int) - st + 1)]) (t := 45) (fr := (0, 0)) (heap2 W _ _)) (by simp [Value.oneCell'])
              (by omega) (by unfold maxLen; omega) (by omega) (by simp; omega) (W.heap.size + 1 + 1) (by simp) ?_; intro gg cap w1 hown1 hgrow hat1 hlt1))
        obtain ⟨hpos3, hbel3⟩ := rt_after hpos2 hbel2 hge (undraw hgrow)
        clear hgrow hat1 hlt1 hown2 hpos2 hbel2 hge hol
        go_wp2
        exact rt_mk (ts := ts ++ [⟨3, (s.data.toList.drop k).take z, ln, k - st + 1⟩]) (ln := ln) (st := st) (own_snoc hown1 (rt_cell _ _ _ _ _ _ hst)) hpos3 hbel3 rfl rfl rfl (by rw [← Res.pre_put, ← HT.out, HT2.out]; rw [show k + z - st + 1 = k - st + 1 + z by omega]; rfl) z1 (by omega) (by omega) (by simp; omega) (by omega)
      · obtain ⟨z1, z2⟩ := hsz (by simp)
        obtain rfl := h4 rfl
        clear h4 hsz
        go_wp2_with fail
        refine (next_is _ _ _ _ _ hm.out (by omega) h0 HK.out (by simp)).mono ?_; rintro e W ⟨rfl, hq⟩; obtain ⟨hown2, hpos2, hbel2⟩ := hq.facts (s := s) hown hpos hbel; have hlt := hpos2.size_; clear hown hpos hbel hwr hq
        go_wp2_with (at_builtin; refine wpList_append_own _ rfl (.tmp 37) (.tmp 41) 36 rfl (w.heap.size + 1) 45 i0 _ 4 40 Try.underlying36 hi0 hz0 hz1 hz2 rfl (by decide) u5 ts.length (tcells ts) rfl ((hown2.alloc _).alloc _) ⟨W.heap.size + 1, 0, none⟩ 1 1 [.int .i64 4, .string ⟨#[]⟩, .int .i64 ln, .int .i64 ((k : Int) - st + 1)] rfl rfl ?c1 ?c2 ?c3 ?c4 ?c5 ?_)
        case c1 => exact World.news_of_block (cs := #[.int .i64 4, .string ⟨#[]⟩, .int .i64 ln, .int .i64 ((k : Int) - st + 1)]) (t := 45) (fr := (0, 0)) (heap2 W _ _)
        case c2 => simp [Value.oneCell']
        case c3 => unfold maxLen; omega
        case c4 => omega
        case c5 => simp; omega
        intro v' w1 hown1 hgrow _
        obtain ⟨hpos3, hbel3⟩ := rt_after hpos2 hbel2 hge hgrow
        clear hgrow hown2 hpos2 hbel2 hge
        go_wp2
        exact rt_mk (k := k) (z := 1) (ts := ts ++ [⟨4, [], ln, k - st + 1⟩]) (ln := ln + 1) (st := k + 1) (own_snoc hown1 (by simp only [tcell]; rw [show ((k - st + 1 : Nat) : Int) = (k : Int) - st + 1 by omega])) hpos3 hbel3 rfl (by omega) (by omega) (by rw [← Res.pre_put, ← HT.out, HT2.out]; rw [show k + 1 - (k + 1) + 1 = 1 by omega]; rfl) z1 (by omega) (by omega) (by simp; omega) (by omega)
    · have hr0 : Hid (s.data.toList.drop k = []) := List.length_eq_zero_iff.1 (by omega)
      obtain rfl : k = s.size := by omega
      clear hlr
      go_wp2_with (at_builtin; refine wpList_append_own _ rfl (.tmp 59) (.tmp 68) 36 rfl (w.heap.size + 1) 45 i0 _ 4 40 Try.underlying36 hi0 hz0 hz1 hz2 rfl (by decide) u5 ts.length (tcells ts) rfl (hown.alloc _) ⟨wr.heap.size, 0, none⟩ 1 1 [.int .i64 5, .string ⟨#[]⟩, .int .i64 ln, .int .i64 ((s.size : Int) - st + 1)] rfl rfl ?e1 ?e2 ?e3 ?e4 ?e5 ?_)
      case e1 => exact World.news_of_block (cs := #[.int .i64 5, .string ⟨#[]⟩, .int .i64 ln, .int .i64 ((s.size : Int) - st + 1)]) (t := 45) (fr := (0, 0)) (heap_alloc_new wr _)
      case e2 => simp [Value.oneCell']
      case e3 => unfold maxLen; omega
      case e4 => omega
      case e5 => simp; omega
      intro v' w1 hown1 hgrow _
      obtain ⟨hpos2, hbel2⟩ := rt_after1 hpos hbel hge hgrow
      have d0 : w1.cell? ⟨w.heap.size, 0, none⟩ = some (.int .i64 0) := hpos2.read 0
      have d1 : w1.cell? ⟨w.heap.size, 1, none⟩ = some (.int .i64 0) := hpos2.read 1
      have g0 := hpos2.open_ 0
      have g1 := hpos2.open_ 1
      clear hgrow hpos hbel hown hge
      go_wp2
      have q0 := ((hpos2.put_ 0 (.int .i64 0)).put_ 1 (.int .i64 0)).read 0
      have q1 := ((hpos2.put_ 0 (.int .i64 0)).put_ 1 (.int .i64 0)).read 1
      refine bodyPost_ret (v := .tuple #[v', .agg #[.int .i64 0, .int .i64 0], .int .i64 0]) (by simp [results, Try.results19, go_sem] at q0 q1 ⊢; simp [q0, q1]) rfl ?_
      exact rpost_good (ts := ts ++ [⟨5, [], ln, s.size - st + 1⟩]) ((hbel2.setCell (by simp) _).setCell (by simp) _) (by rw [← HT.out, hr0.out]; rfl) (ownsRow_setCell_below (ownsRow_setCell_below (own_snoc hown1 (by simp only [tcell]; rw [show ((s.size - st + 1 : Nat) : Int) = (s.size : Int) - st + 1 by omega])) (by simp) _) (by simp) _)
end Go.Proofs.Ytkabmmpldanmcaa
