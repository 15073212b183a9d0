/- The contract of decimal.Tokens. -/
import Derived.Test.YtkabmmpldanmcaaDoorTk0
namespace Go.Proofs.YtkabmmpldanmcaaDoor
open Go.ChangeShapes Go.WideShapes Go.ChangeAt Go.RowKit
set_option linter.unusedVariables false

def strSize : Value → Nat | .string r => r.size | _ => 0

/-- The state of the loop of Tokens. -/
def TkRel (s : ByteArray) (w : World) (v0 v5 : Value) (wr : World) : Prop :=
  ∃ (r : ByteArray) (ts : List Tok) (ln co : Nat), v0 = .string r ∧ ts.length + r.size ≤ s.size ∧ ln + r.size ≤ s.size + 1 ∧ co + r.size ≤ s.size + 1 ∧
    wr.ownsRow (w.heap.size + 2) 30 4 v5 ts.length (tcells ts) ∧ Has wr (w.heap.size + 1) 25 #[.int .i64 ln, .int .i64 co] ∧ Has wr w.heap.size 25 #[.int .i64 0, .int .i64 0] ∧
    Below w.heap.size w wr ∧ (T r.data.toList ln co).pre ts = T s.data.toList 1 1

def TkPost (s : ByteArray) (w : World) (e : Ending) (w' : World) : Prop :=
  Below w.heap.size w w' ∧
  match T s.data.toList 1 1 with
  | .bad ln co => e = .returned (.tuple #[.slice none 0 0, .agg #[.int .i64 ln, .int .i64 co], .int .i64 7])
  | .good ts => ∃ v, e = .returned (.tuple #[v, .agg #[.int .i64 0, .int .i64 0], .int .i64 0]) ∧ w'.ownsRow (w.heap.size + 2) 30 4 v ts.length (tcells ts)

theorem first_is (s : ByteArray) (w : World) (k : Int) (z : Nat) (hs : s.size ≤ maxLen) (h0 : 0 < s.size) (hk : firstL s.data.toList = (k, z)) :
    Calls Tryd.prog 14 #[.string s] w fun e w' => e = .returned (.tuple #[.int .i64 k, .int .i64 z]) ∧ w = w' := by
  have h := first_any s w hs h0
  rw [hk] at h; exact h

theorem own_ge {w : World} {base : Nat} {e : TypeId} {size n : Nat} {v : Value} {xs : List Value} (h : w.ownsRow base e size v n xs) : ∀ k, v.ownBlock = some k → base ≤ k := by
  intro k hk
  rcases h.2 with ⟨rfl, _⟩ | ⟨g, cap, cur, rfl, hg, _⟩
  · cases hk
  · simp [Value.ownBlock] at hk; omega

theorem undraw {w w1 : World} {r : Option Nat} (h : w.drew.grownBy w1 r) : w.grownBy w1 r := ⟨h.os, h.tape, h.output, h.size, h.block⟩
theorem tk_after {w wr w1 : World} {v : Value} {o : Obj} {c d : Array Value} (hat : Has wr (w.heap.size + 1) 25 c) (hpos : Has wr w.heap.size 25 d) (hbel : Below w.heap.size w wr)
    (hge : ∀ k, v.ownBlock = some k → w.heap.size + 2 ≤ k) (hgrow : (wr.alloc o).grownBy w1 v.ownBlock) : Has w1 (w.heap.size + 1) 25 c ∧ Has w1 w.heap.size 25 d ∧ Below w.heap.size w w1 := by
  have hs := hat.size_
  refine ⟨(hat.alloc_ o).grown_ hgrow (fun e => ?_), (hpos.alloc_ o).grown_ hgrow (fun e => ?_), (hbel.alloc (by omega) o).grown hgrow (by simp; omega) (fun k hk => ?_)⟩
  · have := hge _ e.symm; omega
  · have := hge _ e.symm; omega
  · have := hge _ hk; omega

theorem rel_mk {s r : ByteArray} {w W : World} {v5 : Value} {ts : List Tok} {z ln co : Nat} {a b : Int} (hown : W.ownsRow (w.heap.size + 2) 30 4 v5 ts.length (tcells ts))
    (hat : Has W (w.heap.size + 1) 25 #[.int .i64 a, .int .i64 b]) (ha : a = ln) (hb : b = co) (hpos : Has W w.heap.size 25 #[.int .i64 0, .int .i64 0]) (hbel : Below w.heap.size w W)
    (hT : (T (r.data.toList.drop z) ln co).pre ts = T s.data.toList 1 1) (z1 : 1 ≤ z) (z2 : z ≤ r.size) (b1 : ts.length + r.size ≤ s.size + z) (b2 : ln + r.size ≤ s.size + 1 + z) (b3 : co + r.size ≤ s.size + 1 + z) :
    TkRel s w (.string (r.extract z r.size)) v5 W ∧ strSize (.string (r.extract z r.size)) < strSize (.string r) := by
  have hsz : (r.extract z r.size).size = r.size - z := by simp
  refine ⟨⟨r.extract z r.size, ts, ln, co, rfl, by omega, by omega, by omega, hown, by rw [← ha, ← hb]; exact hat, hpos, hbel, ?_⟩, ?_⟩
  · rw [Lib.extract_to_end]; exact hT
  · show (r.extract z r.size).size < r.size; omega

theorem post_bad {s r : ByteArray} {w W : World} {ts : List Tok} {ln co : Nat} (hbel : Below w.heap.size w W) (hT : (Res.bad ln co).pre ts = T s.data.toList 1 1) :
    TkPost s w (.returned (.tuple #[.slice none 0 0, .agg #[.int .i64 ln, .int .i64 co], .int .i64 7])) W := by
  refine ⟨hbel, ?_⟩
  rw [← hT]; rfl
theorem post_good {s r : ByteArray} {w W : World} {ts : List Tok} {v : Value} (hbel : Below w.heap.size w W) (hT : (Res.good ts) = T s.data.toList 1 1) (hown : W.ownsRow (w.heap.size + 2) 30 4 v ts.length (tcells ts)) :
    TkPost s w (.returned (.tuple #[v, .agg #[.int .i64 0, .int .i64 0], .int .i64 0])) W := by
  refine ⟨hbel, ?_⟩
  rw [← hT]; exact ⟨v, rfl, hown⟩

theorem own_snoc {W : World} {base : Nat} {v : Value} {ts : List Tok} {t : Tok} {cs : List Value} (h : W.ownsRow base 30 4 v (ts.length + 1) (tcells ts ++ cs)) (e : cs = tcell t) : W.ownsRow base 30 4 v (ts ++ [t]).length (tcells (ts ++ [t])) := by
  rw [tcells_snoc, List.length_append, ← e]; exact h

set_option maxHeartbeats 4000000 in
theorem tokens_any (s : ByteArray) (w : World) (hs : s.size ≤ 262144) :
    Calls Tryd.prog 5 #[.string s] w (TkPost s w) := by
  have hm : s.size ≤ maxLen := by unfold maxLen; omega
  go_enter Tryd.func5, Tryd.ntmps5
  go_wp2
  go_loopw [0, 5] (fun v0 v5 wr => TkRel s w v0 v5 wr) (fun v0 _ _ => strSize v0)
  case atStart =>
    refine ⟨s, [], 1, 1, rfl, by simp, by omega, by omega, World.ownsRow_nil _ _ _ _, ?_, ?_, ?_, Res.pre_nil _⟩
    · have h := Has.new_ (w.alloc (.cells #[.int .i64 0, .int .i64 0] 25)) 25 #[.int .i64 1, .int .i64 1]
      simpa using h
    · exact (Has.new_ w 25 _).alloc_ _
    · exact ((Below.refl _ _).alloc (Nat.le_refl _) _).alloc (by simp) _
  case round =>
    obtain ⟨r, ts, ln, co, rfl, hz, hln, hco, hown, hat, hpos, hbel, hT⟩ := hrel
    have HT := Lib.hid hT; clear hT
    have hrm : Hid (r.size ≤ maxLen) := by show r.size ≤ maxLen; unfold maxLen; omega
    have hlr : r.data.toList.length = r.size := by simp
    have c0 : wr.cell? ⟨w.heap.size + 1, 0, none⟩ = some (.int .i64 ln) := hat.read 0
    have c1 : wr.cell? ⟨w.heap.size + 1, 1, none⟩ = some (.int .i64 co) := hat.read 1
    have f0 := hat.open_ 0
    have f1 := hat.open_ 1
    have d0 : wr.cell? ⟨w.heap.size, 0, none⟩ = some (.int .i64 0) := hpos.read 0
    have d1 : wr.cell? ⟨w.heap.size, 1, none⟩ = some (.int .i64 0) := hpos.read 1
    have g0 := hpos.open_ 0
    have g1 := hpos.open_ 1
    have hge := own_ge hown
    have hwr := hat.size_
    obtain ⟨i0, hi0, hz0, hz1, hz2⟩ := info_parts info45
    clear hm hs
    by_cases h0 : 0 < r.size
    · obtain ⟨k, z, hkz⟩ : ∃ k z, firstL r.data.toList = (k, z) := ⟨_, _, rfl⟩
      have hT2 := T_step (l := r.data.toList) (by omega) ln co
      have hfl := firstL_len (l := r.data.toList) (by omega)
      rw [hkz] at hT2 hfl
      rw [hlr] at hfl
      clear hlr
      have HK := Lib.hid hkz; have HT2 := Lib.hid hT2; clear hkz hT2
      obtain ⟨hk, h4, hsz⟩ := hfl
      rcases hk with rfl | rfl | rfl | rfl | rfl | rfl
      · clear h4 hsz
        go_wp2_with (go_at_call 14; refine (first_is _ _ _ _ hrm.out h0 HK.out).mono ?_; rintro e w' ⟨rfl, rfl⟩)
        go_region
        go_wp2
        have q0 := ((hpos.put_ 0 (.int .i64 ln)).put_ 1 (.int .i64 co)).read 0
        have q1 := ((hpos.put_ 0 (.int .i64 ln)).put_ 1 (.int .i64 co)).read 1
        refine bodyPost_ret (v := .tuple #[.slice none 0 0, .agg #[.int .i64 ln, .int .i64 co], .int .i64 7]) (by simp [results, Tryd.results5, go_sem] at q0 q1 ⊢; simp [q0, q1]) rfl ?_
        exact post_bad (r := r) (((hbel.setCell (Nat.le_refl _) _).setCell (Nat.le_refl _) _).drew) (by rw [← HT.out, HT2.out]; rfl)
      · obtain ⟨z1, z2⟩ := hsz (by simp)
        clear h4 hsz
        go_wp2_with (go_at_call 14; refine (first_is _ _ _ _ hrm.out h0 HK.out).mono ?_; rintro e w' ⟨rfl, rfl⟩)
        exact rel_mk (ln := ln) (co := co + z) (ownsRow_setCell_below hown (by simp) _) (hat.put_ 1 _) rfl (by omega) (hpos.apart_ (by simp) _) (hbel.setCell (by simp) _) (by rw [← HT.out, HT2.out]; rfl) z1 z2 (by omega) (by omega) (by omega)
      · obtain ⟨z1, z2⟩ := hsz (by simp)
        clear h4 hsz
        go_wp2_with (go_at_call 14; refine (first_is _ _ _ _ hrm.out h0 HK.out).mono ?_; rintro e w' ⟨rfl, rfl⟩)
        go_region_held3 (fun w' => w'.cell? ⟨w.heap.size + 1, 0, none⟩ = some (.int .i64 ln) ∧ w'.cell? ⟨w.heap.size + 1, 1, none⟩ = some (.int .i64 co))
          (first
            | go_keep
            | (go_split_ands
               refine ⟨?_, ?_⟩
               · (rw [hgrow.cell_far _ (by simp; omega) (by intro e; have := hge _ e.symm; simp at this)]; assumption)
               · (rw [hgrow.cell_far _ (by simp; omega) (by intro e; have := hge _ e.symm; simp at this)]; assumption)))
          ((refine step_append_lies _ (by rfl) _ _ _ (by rfl) (w.heap.size + 2) 30 i0 _ 4 40 Tryd.underlying23 hi0 hz0 hz1 hz2 rfl (by omega) u5 ts.length (tcells ts) (by rfl) ((hown.alloc _).drew)
              ⟨wr.heap.size, 0, none⟩ 1 1 [.int .i64 1, .string (r.extract 0 z), .int .i64 ln, .int .i64 co] (by rfl) (by rfl) (World.news_of_block (cs := #[.int .i64 1, .string (r.extract 0 z), .int .i64 ln, .int .i64 co]) (t := 30) (fr := (0, 0)) (heap_alloc_new wr _)) (by simp [Value.oneCell'])
              (by omega) (by unfold maxLen; omega) (by omega) (by simp; omega) (wr.heap.size + 1) (by simp) ?_; intro gg cap w1 hown1 hgrow hat1 hlt1))
        clear hat1 hlt1 c0 c1 f0 f1 d0 d1 g0 g1
        obtain ⟨hat2, hpos2, hbel2⟩ := tk_after hat hpos hbel hge (undraw hgrow)
        have c0 : w1.cell? ⟨w.heap.size + 1, 0, none⟩ = some (.int .i64 ln) := hat2.read 0
        have c1 : w1.cell? ⟨w.heap.size + 1, 1, none⟩ = some (.int .i64 co) := hat2.read 1
        have f0 := hat2.open_ 0
        have f1 := hat2.open_ 1
        clear hgrow hat hpos hbel hown hge
        go_wp2
        exact rel_mk (ts := ts ++ [⟨1, r.data.toList.take z, ln, co⟩]) (ln := ln) (co := co + z) (ownsRow_setCell_below (own_snoc hown1 (by rw [Lib.extract_eq]; rfl)) (by simp) _) (hat2.put_ 1 _) rfl (by omega) (hpos2.apart_ (by simp) _) (hbel2.setCell (by simp) _) (by rw [← Res.pre_put, ← HT.out, HT2.out]; rfl) z1 z2 (by simp; omega) (by omega) (by omega)
      · obtain ⟨z1, z2⟩ := hsz (by simp)
        clear h4 hsz
        go_wp2_with (go_at_call 14; refine (first_is _ _ _ _ hrm.out h0 HK.out).mono ?_; rintro e w' ⟨rfl, rfl⟩)
        go_region_held3 (fun w' => w'.cell? ⟨w.heap.size + 1, 0, none⟩ = some (.int .i64 ln) ∧ w'.cell? ⟨w.heap.size + 1, 1, none⟩ = some (.int .i64 co))
          (first
            | go_keep
            | (go_split_ands
               refine ⟨?_, ?_⟩
               · (rw [hgrow.cell_far _ (by simp; omega) (by intro e; have := hge _ e.symm; simp at this)]; assumption)
               · (rw [hgrow.cell_far _ (by simp; omega) (by intro e; have := hge _ e.symm; simp at this)]; assumption)))
          ((refine step_append_lies _ (by rfl) _ _ _ (by rfl) (w.heap.size + 2) 30 i0 _ 4 40 Tryd.underlying23 hi0 hz0 hz1 hz2 rfl (by omega) u5 ts.length (tcells ts) (by rfl) ((hown.alloc _).drew)
              ⟨wr.heap.size, 0, none⟩ 1 1 [.int .i64 2, .string (r.extract 0 z), .int .i64 ln, .int .i64 co] (by rfl) (by rfl) (World.news_of_block (cs := #[.int .i64 2, .string (r.extract 0 z), .int .i64 ln, .int .i64 co]) (t := 30) (fr := (0, 0)) (heap_alloc_new wr _)) (by simp [Value.oneCell'])
              (by omega) (by unfold maxLen; omega) (by omega) (by simp; omega) (wr.heap.size + 1) (by simp) ?_; intro gg cap w1 hown1 hgrow hat1 hlt1))
        clear hat1 hlt1 c0 c1 f0 f1 d0 d1 g0 g1
        obtain ⟨hat2, hpos2, hbel2⟩ := tk_after hat hpos hbel hge (undraw hgrow)
        have c0 : w1.cell? ⟨w.heap.size + 1, 0, none⟩ = some (.int .i64 ln) := hat2.read 0
        have c1 : w1.cell? ⟨w.heap.size + 1, 1, none⟩ = some (.int .i64 co) := hat2.read 1
        have f0 := hat2.open_ 0
        have f1 := hat2.open_ 1
        clear hgrow hat hpos hbel hown hge
        go_wp2
        exact rel_mk (ts := ts ++ [⟨2, r.data.toList.take z, ln, co⟩]) (ln := ln) (co := co + z) (ownsRow_setCell_below (own_snoc hown1 (by rw [Lib.extract_eq]; rfl)) (by simp) _) (hat2.put_ 1 _) rfl (by omega) (hpos2.apart_ (by simp) _) (hbel2.setCell (by simp) _) (by rw [← Res.pre_put, ← HT.out, HT2.out]; rfl) z1 z2 (by simp; omega) (by omega) (by omega)
      · obtain ⟨z1, z2⟩ := hsz (by simp)
        clear h4 hsz
        go_wp2_with (go_at_call 14; refine (first_is _ _ _ _ hrm.out h0 HK.out).mono ?_; rintro e w' ⟨rfl, rfl⟩)
        go_region_held3 (fun w' => w'.cell? ⟨w.heap.size + 1, 0, none⟩ = some (.int .i64 ln) ∧ w'.cell? ⟨w.heap.size + 1, 1, none⟩ = some (.int .i64 co))
          (first
            | go_keep
            | (go_split_ands
               refine ⟨?_, ?_⟩
               · (rw [hgrow.cell_far _ (by simp; omega) (by intro e; have := hge _ e.symm; simp at this)]; assumption)
               · (rw [hgrow.cell_far _ (by simp; omega) (by intro e; have := hge _ e.symm; simp at this)]; assumption)))
          ((refine step_append_lies _ (by rfl) _ _ _ (by rfl) (w.heap.size + 2) 30 i0 _ 4 40 Tryd.underlying23 hi0 hz0 hz1 hz2 rfl (by omega) u5 ts.length (tcells ts) (by rfl) ((hown.alloc _).drew)
              ⟨wr.heap.size, 0, none⟩ 1 1 [.int .i64 3, .string (r.extract 0 z), .int .i64 ln, .int .i64 co] (by rfl) (by rfl) (World.news_of_block (cs := #[.int .i64 3, .string (r.extract 0 z), .int .i64 ln, .int .i64 co]) (t := 30) (fr := (0, 0)) (heap_alloc_new wr _)) (by simp [Value.oneCell'])
              (by omega) (by unfold maxLen; omega) (by omega) (by simp; omega) (wr.heap.size + 1) (by simp) ?_; intro gg cap w1 hown1 hgrow hat1 hlt1))
        clear hat1 hlt1 c0 c1 f0 f1 d0 d1 g0 g1
        obtain ⟨hat2, hpos2, hbel2⟩ := tk_after hat hpos hbel hge (undraw hgrow)
        have c0 : w1.cell? ⟨w.heap.size + 1, 0, none⟩ = some (.int .i64 ln) := hat2.read 0
        have c1 : w1.cell? ⟨w.heap.size + 1, 1, none⟩ = some (.int .i64 co) := hat2.read 1
        have f0 := hat2.open_ 0
        have f1 := hat2.open_ 1
        clear hgrow hat hpos hbel hown hge
        go_wp2
        exact rel_mk (ts := ts ++ [⟨3, r.data.toList.take z, ln, co⟩]) (ln := ln) (co := co + z) (ownsRow_setCell_below (own_snoc hown1 (by rw [Lib.extract_eq]; rfl)) (by simp) _) (hat2.put_ 1 _) rfl (by omega) (hpos2.apart_ (by simp) _) (hbel2.setCell (by simp) _) (by rw [← Res.pre_put, ← HT.out, HT2.out]; rfl) z1 z2 (by simp; omega) (by omega) (by omega)
      · obtain ⟨z1, z2⟩ := hsz (by simp)
        obtain rfl := h4 rfl
        clear h4 hsz
        go_wp2_with (first
          | (go_at_call 14; refine (first_is _ _ _ _ hrm.out h0 HK.out).mono ?_; rintro e w' ⟨rfl, rfl⟩)
          | (at_builtin; refine wpList_append_own _ rfl (.tmp 39) (.tmp 43) 23 rfl (w.heap.size + 2) 30 i0 _ 4 40 Tryd.underlying23 hi0 hz0 hz1 hz2 rfl (by decide) u5 ts.length (tcells ts) rfl (hown.alloc _) ⟨wr.heap.size, 0, none⟩ 1 1 [.int .i64 4, .string ⟨#[]⟩, .int .i64 ln, .int .i64 co] rfl rfl ?c1 ?c2 ?c3 ?c4 ?c5 ?_))
        case c1 => exact World.news_of_block (cs := #[.int .i64 4, .string ⟨#[]⟩, .int .i64 ln, .int .i64 co]) (t := 30) (fr := (0, 0)) (heap_alloc_new wr _)
        case c2 => simp [Value.oneCell']
        case c3 => unfold maxLen; omega
        case c4 => omega
        case c5 => simp; omega
        intro v' w1 hown1 hgrow _
        clear c0 c1 f0 f1 d0 d1 g0 g1
        obtain ⟨hat2, hpos2, hbel2⟩ := tk_after hat hpos hbel hge hgrow
        have c0 : w1.cell? ⟨w.heap.size + 1, 0, none⟩ = some (.int .i64 ln) := hat2.read 0
        have c1 : w1.cell? ⟨w.heap.size + 1, 1, none⟩ = some (.int .i64 co) := hat2.read 1
        have f0 := hat2.open_ 0
        have f1 := hat2.open_ 1
        have hat3 := hat2.put_ 1 (.int .i64 ((co : Int) + 1))
        have e0 : (w1.setCell ⟨w.heap.size + 1, 1, none⟩ (.int .i64 ((co : Int) + 1))).cell? ⟨w.heap.size + 1, 0, none⟩ = some (.int .i64 ln) := hat3.read 0
        have e1 : (w1.setCell ⟨w.heap.size + 1, 1, none⟩ (.int .i64 ((co : Int) + 1))).cell? ⟨w.heap.size + 1, 1, none⟩ = some (.int .i64 ((co : Int) + 1)) := hat3.read 1
        have k0 := hat3.open_ 0
        have k1 := hat3.open_ 1
        clear hgrow hat hpos hbel hown hge
        go_wp2
        exact rel_mk (ts := ts ++ [⟨4, [], ln, co⟩]) (ln := ln + 1) (co := 1) (ownsRow_setCell_below (ownsRow_setCell_below (ownsRow_setCell_below (own_snoc hown1 rfl) (by simp) _) (by simp) _) (by simp) _) (((hat2.put_ 1 _).put_ 0 _).put_ 1 _) (by omega) rfl (((hpos2.apart_ (by simp) _).apart_ (by simp) _).apart_ (by simp) _) (((hbel2.setCell (by simp) _).setCell (by simp) _).setCell (by simp) _) (by rw [← Res.pre_put, ← HT.out, HT2.out]; rfl) z1 z2 (by simp; omega) (by omega) (by omega)
    · have hr0 : Hid (r.data.toList = []) := List.length_eq_zero_iff.1 (by omega)
      clear hlr
      go_wp2_with (at_builtin; refine wpList_append_own _ rfl (.tmp 59) (.tmp 62) 23 rfl (w.heap.size + 2) 30 i0 _ 4 40 Tryd.underlying23 hi0 hz0 hz1 hz2 rfl (by decide) u5 ts.length (tcells ts) rfl (hown.alloc _) ⟨wr.heap.size, 0, none⟩ 1 1 [.int .i64 5, .string ⟨#[]⟩, .int .i64 ln, .int .i64 co] rfl rfl ?e1 ?e2 ?e3 ?e4 ?e5 ?_)
      case e1 => exact World.news_of_block (cs := #[.int .i64 5, .string ⟨#[]⟩, .int .i64 ln, .int .i64 co]) (t := 30) (fr := (0, 0)) (heap_alloc_new wr _)
      case e2 => simp [Value.oneCell']
      case e3 => unfold maxLen; omega
      case e4 => omega
      case e5 => simp; omega
      intro v' w1 hown1 hgrow _
      clear c0 c1 f0 f1 d0 d1 g0 g1
      obtain ⟨hat2, hpos2, hbel2⟩ := tk_after hat hpos hbel hge hgrow
      have d0 : w1.cell? ⟨w.heap.size, 0, none⟩ = some (.int .i64 0) := hpos2.read 0
      have d1 : w1.cell? ⟨w.heap.size, 1, none⟩ = some (.int .i64 0) := hpos2.read 1
      have g0 := hpos2.open_ 0
      have g1 := hpos2.open_ 1
      clear hgrow hat hpos hbel hown hge
      go_wp2
      have q0 := ((hpos2.put_ 0 (.int .i64 0)).put_ 1 (.int .i64 0)).read 0
      have q1 := ((hpos2.put_ 0 (.int .i64 0)).put_ 1 (.int .i64 0)).read 1
      refine bodyPost_ret (v := .tuple #[v', .agg #[.int .i64 0, .int .i64 0], .int .i64 0]) (by simp [results, Tryd.results5, go_sem] at q0 q1 ⊢; simp [q0, q1]) rfl ?_
      exact post_good (r := r) (ts := ts ++ [⟨5, [], ln, co⟩]) ((hbel2.setCell (by simp) _).setCell (by simp) _) (by rw [← HT.out, hr0.out]; rfl) (ownsRow_setCell_below (ownsRow_setCell_below (own_snoc hown1 rfl) (by simp) _) (by simp) _)

theorem tokens_long (s : ByteArray) (w : World) (hs : 262144 < s.size) (hm : s.size ≤ maxLen) :
    Calls Tryd.prog 5 #[.string s] w fun e w' => e = .returned (.tuple #[.slice none 0 0, .agg #[.int .i64 0, .int .i64 0], .int .i64 4]) ∧ Below w.heap.size w w' := by
  unfold maxLen at hm
  go_enter Tryd.func5, Tryd.ntmps5
  go_wp2
  refine bodyPost_ret (v := .tuple #[.slice none 0 0, .agg #[.int .i64 0, .int .i64 0], .int .i64 4]) (by simp [results, Tryd.results5, go_sem]) rfl ⟨rfl, ?_⟩
  exact (Below.refl _ _).alloc (Nat.le_refl _) _
end Go.Proofs.YtkabmmpldanmcaaDoor
