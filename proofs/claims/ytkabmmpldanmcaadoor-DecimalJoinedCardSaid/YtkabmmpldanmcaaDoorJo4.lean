/- DecimalJoined returns true: the walk. -/
import Derived.Test.YtkabmmpldanmcaaDoorJo3
namespace Go.Proofs.YtkabmmpldanmcaaDoor
open Go.ChangeShapes Go.WideShapes Go.ChangeAt Go.RowKit
set_option linter.unusedVariables false

/-- The cells of what the loop has appended for the first k tokens. -/
def pcells (ts : List Tok) (k : Nat) : List Value := ((ts.take k).map pieceB).map Value.string
/-- The state of the loop of DecimalJoined. -/
def JoRel (ts : List Tok) (w3 : World) (v7 v47 : Value) (wr : World) : Prop :=
  ∃ k : Nat, k ≤ ts.length ∧ v47 = .int .i64 k ∧ Below w3.heap.size w3 wr ∧ wr.ownsRow w3.heap.size 9 1 v7 k (pcells ts k)

theorem jo_next {ts : List Tok} {w3 wa W : World} {v v' : Value} {k : Nat} {x : ByteArray} (hk : k < ts.length) (hx : pieceB ts[k] = x) (hb : Below w3.heap.size w3 wa) (hge : ∀ g, v.ownBlock = some g → w3.heap.size ≤ g)
    (hgrow : wa.grownBy W v.ownBlock) (hown1 : W.ownsRow w3.heap.size 9 1 v' (k + 1) (pcells ts k ++ [.string x])) : JoRel ts w3 v' (.int .i64 ((k : Int) + 1)) W := by
  refine ⟨k + 1, by omega, rfl, hb.grown hgrow hb.size (fun g hg => by have := hge g hg; omega), ?_⟩
  unfold pcells at *; rw [pieces_snoc ts k hk, List.map_append, hx]; exact hown1

theorem pieceB_nl {ts : List Tok} {k : Nat} {hk : k < ts.length} {x : ByteArray} {a b : Nat} (h : ts[k] = ⟨4, x.data.toList, a, b⟩) : pieceB ts[k] = ⟨#[10]⟩ := by rw [h]; rfl
theorem pieceB_tx {ts : List Tok} {k : Nat} {hk : k < ts.length} {x : ByteArray} {a b : Nat} {kd : Int} (h : ts[k] = ⟨kd, x.data.toList, a, b⟩) (h4 : kd ≠ 4) : pieceB ts[k] = x := by
  rw [h]; unfold pieceB piece; rw [if_neg h4]

theorem new_at (wr : World) (o o2 : Obj) (m : Nat) : (((wr.alloc o).drewN m).alloc o2).heap[wr.heap.size + 1]? = some o2 := by
  have h := heap_alloc_new ((wr.alloc o).drewN m) o2
  have e : ((wr.alloc o).drewN m).heap.size = wr.heap.size + 1 := by show (wr.alloc o).heap.size = _; simp
  rw [e] at h; exact h

/-- What the loop reads of the token before. -/
theorem prev_facts {ts : List Tok} {w3 wr : World} {g1 k j lp cp : Nat} {kd : Int} {tx : List UInt8} (hT : Toks w3 g1 ts) (hg1 : g1 < w3.heap.size) (hb : Below w3.heap.size w3 wr) (hasc : asc ts) (hk : k < ts.length) (hj : k = j + 1) (htk : ts[k] = ⟨kd, tx, lp + 1, cp + 1⟩) :
    ∃ pl pc : Nat, (∀ o, (wr.alloc o).cell? ⟨g1, j * 4 + 2, none⟩ = some (.int .i64 pl)) ∧ (∀ o, (wr.alloc o).cell? ⟨g1, j * 4 + 3, none⟩ = some (.int .i64 pc)) ∧ (pl < lp + 1 ∨ (lp + 1 = pl ∧ pc < cp + 1)) := by
  have hj2 : j < ts.length := by omega
  have hsz := hb.size
  obtain ⟨_, _, a2, a3⟩ := toks_at (toks_below hT hb hg1) j hj2
  refine ⟨ts[j].line, ts[j].col, fun o => (World.cell?_alloc_lt wr o ⟨g1, j * 4 + 2, none⟩ (by show g1 < _; omega)).trans a2, fun o => (World.cell?_alloc_lt wr o ⟨g1, j * 4 + 3, none⟩ (by show g1 < _; omega)).trans a3, ?_⟩
  subst hj
  have h := hasc j ts[j] ts[j + 1] (by simp [hj2]) (by simp [hk])
  rw [htk] at h
  exact h

theorem join_ret' (ts : List Tok) (v : Value) (B : Nat) (w : World) (h0 : 0 < ts.length) (hN : ts.length ≤ 2000) (hown : w.ownsRow B 9 1 v (ts.map pieceB).length ((ts.map pieceB).map Value.string)) (hlen : (joined ts).length ≤ 2000) :
    Calls Tryd.prog 8 #[v, .string ⟨#[32]⟩] w fun e w' => ∃ J : ByteArray, e = .returned (.string J) ∧ J.data.toList = joined ts ∧ Below w.heap.size w w' := by
  have e : (ts.map pieceB).map (·.data.toList) = ts.map piece := by simp [pieceB]
  have h := join_ret (ts.map pieceB) v B w (by simpa using h0) (by simpa using hN) hown (by rw [e]; exact hlen)
  rw [e] at h
  exact h.mono fun e w' ⟨he, hb⟩ => ⟨_, he, by simp [joined], hb⟩

theorem lns_alloc {w : World} {g : Nat} {Ls : List (List UInt8)} (h : Lns w g Ls) (hg : g < w.heap.size) (o : Obj) : Lns (w.alloc o) g Ls :=
  fun j u hj => (World.cell?_alloc_lt w o ⟨g, j, none⟩ hg).trans (h j u hj)
theorem lns_below {w w' : World} {g B : Nat} {Ls : List (List UInt8)} (h : Lns w g Ls) (hb : Below B w w') (hg : g < B) : Lns w' g Ls :=
  fun j u hj => (hb.cell (p := ⟨g, j, none⟩) hg).trans (h j u hj)

/-- What the loop reads of a token, and of the line in which it stands. -/
theorem round_facts {Ls : List (List UInt8)} {ts : List Tok} {w3 wr : World} {g1 g : Nat} {k : Nat} (hT : Toks w3 g1 ts) (hg1 : g1 < w3.heap.size) (hL : Lns w3 g Ls) (hg : g < w3.heap.size) (hb : Below w3.heap.size w3 wr)
    (hst : ∀ t ∈ ts, stands Ls t) (hLb : ∀ L ∈ Ls, L.length ≤ 1000) (hk : k < ts.length) : ∃ (kd : Int) (tx L : ByteArray) (lp cp : Nat),
      ts[k] = ⟨kd, tx.data.toList, lp + 1, cp + 1⟩ ∧ lp < Ls.length ∧ cp ≤ L.size ∧ L.size ≤ 1000 ∧ tx.data.toList.isPrefixOf (L.data.toList.drop cp) = true ∧
      (wr.cell? ⟨g1, k * 4, none⟩ = some (.int .i64 kd) ∧ wr.cell? ⟨g1, k * 4 + 1, none⟩ = some (.string tx) ∧ wr.cell? ⟨g1, k * 4 + 2, none⟩ = some (.int .i64 ((lp : Int) + 1)) ∧ wr.cell? ⟨g1, k * 4 + 3, none⟩ = some (.int .i64 ((cp : Int) + 1))) ∧
      (∀ o, (wr.alloc o).cell? ⟨g, lp, none⟩ = some (.string L)) := by
  obtain ⟨a0, a1, a2, a3⟩ := toks_at (toks_below hT hb hg1) k hk
  obtain ⟨h1, L, hL1, h2, h3, h4⟩ := hst ts[k] (List.getElem_mem hk)
  have hsz := hb.size
  generalize ts[k] = t at *
  obtain ⟨kd, tx, ln, co⟩ := t
  dsimp only at a0 a1 a2 a3 h1 hL1 h2 h3 h4
  obtain ⟨lp, rfl⟩ : ∃ lp, ln = lp + 1 := ⟨ln - 1, by omega⟩
  obtain ⟨cp, rfl⟩ : ∃ cp, co = cp + 1 := ⟨co - 1, by omega⟩
  rw [Nat.add_sub_cancel] at hL1 h4
  exact ⟨kd, ⟨tx.toArray⟩, ⟨L.toArray⟩, lp, cp, rfl, (List.getElem?_eq_some_iff.1 hL1).1, by show cp ≤ L.length; omega, hLb L (List.mem_of_getElem? hL1), h4, ⟨a0, a1, a2, a3⟩, fun o => lns_alloc (lns_below hL hb hg) (by omega) o lp L hL1⟩

set_option maxRecDepth 100000 in
set_option maxHeartbeats 4000000 in
theorem joined_walk (s : ByteArray) (m : Int) (w : World) (hs : s.size ≤ maxLen) (hm0 : w.cell? ⟨0, 0, none⟩ = some (.int .i64 m)) (h0 : 0 < w.heap.size) :
    Calls Tryd.prog 3 #[.string s] w fun e w' => e = .returned (.bool true) ∧ Below w.heap.size w w' := by
  by_cases hl : 1000 < s.size
  · unfold maxLen at hs
    have t1 : (1000 : Int) < s.size := by omega
    go_enter Tryd.func3, Tryd.ntmps3
    go_wp2_with (go_at_call 4; refine (awake_any _).mono ?_; rintro e w1 ⟨rfl, hb1⟩)
    go_ret
    exact ⟨rfl, hb1⟩
  · have hm := Lib.hid hs
    clear hs
    have t1 : ¬ (1000 : Int) < s.size := by omega
    have hsz : s.size ≤ 262144 := by omega
    cases hT : T s.data.toList 1 1 with
    | bad ln co =>
      have HT := Lib.hid hT; clear hT
      go_enter Tryd.func3, Tryd.ntmps3
      go_wp2_with (first | (go_at_call 4; refine (awake_any _).mono ?_; rintro e w1 ⟨rfl, hb1⟩) | (go_at_call 5; refine (tok_bad s ln co _ hsz HT.out).mono ?_; rintro e w2 ⟨rfl, hb2⟩))
      go_ret
      exact ⟨rfl, (belows hb1 hb2).alloc (belows hb1 hb2).size _⟩
    | good ts =>
      have hlen := toks_len _ _ _ _ _ hT
      have hln : s.data.toList.length = s.size := by simp
      rw [hln] at hlen
      obtain ⟨q, tl, hq, hk5⟩ := toks_last _ _ _ _ _ hT
      have hn : ts.length = q.length + 1 := by rw [hq]; simp
      have h5 : ts[q.length]? = some tl := by rw [hq]; simp
      obtain ⟨hst, hasc, _⟩ := toks_stand (linesL s.data.toList) _ s.data.toList 1 1 ts [] (Nat.le_refl _) hT (by omega) (by omega) rfl (by obtain ⟨h, r, hl⟩ := linesL_pos s.data.toList; rw [hl]; simp)
      obtain ⟨hjl, hj⟩ := toks_joined _ s.data.toList 1 1 ts (Nat.le_refl _) hT
      have HT := Lib.hid hT; have HJ := Lib.hid hj; have HST := Lib.hid hst; have HASC := Lib.hid hasc; have H5 := Lib.hid h5; have HK5 := Lib.hid hk5; have HQ := Lib.hid hq
      rw [hln] at hjl
      have HJL := Lib.hid hjl
      clear hT hln hj hst hasc h5 hk5 hq hjl
      go_enter Tryd.func3, Tryd.ntmps3
      go_wp2_with (first | (go_at_call 4; refine (awake_any _).mono ?_; rintro e w1 ⟨rfl, hb1⟩) | (go_at_call 5; fail))
      refine (tok_good s ts _ hsz HT.out).mono ?_
      rintro e w2 ⟨g1, c1, rfl, hb2, ht1, hg1⟩
      have hb := belows hb1 hb2
      have hcell := (hb.cell (p := ⟨0, 0, none⟩) h0).trans hm0
      have HB := Lib.hid hb
      have hw2 := hb.size
      clear hb1 hb2 hb
      have HT1 := Lib.hid ht1
      have hl5 : w2.cell? ⟨g1, q.length * 4, none⟩ = some (.int .i64 5) := by
        obtain ⟨a0, _⟩ := toks_at ht1 q.length (by omega)
        have : ts[q.length] = tl := by have h := H5.out; rw [List.getElem?_eq_getElem (by omega)] at h; exact Option.some.inj h
        rw [a0, this, HK5.out]
      have hl5b := fun o => (World.cell?_alloc_lt w2 o ⟨g1, q.length * 4, none⟩ hg1).trans hl5
      clear ht1 hm0
      have hnI : (ts.length : Int) = (q.length : Int) + 1 := by omega
      rw [hn]
      go_wp2_with (go_at_call 6; fail)
      refine (split_ret s m _ (by omega) ((World.cell?_alloc_lt w2 _ ⟨0, 0, none⟩ (by show 0 < _; omega)).trans hcell)).mono ?_
      rintro e w3 ⟨g, rfl, hb3, hg3, hls⟩
      have hT3 := toks_below (toks_alloc HT1.out hg1 (.cells #[.int .i64 0, .int .i64 0] 25)) hb3 (by simp; omega)
      have hs3 := hb3.size
      simp at hs3
      have hg13 : g1 < w3.heap.size := by omega
      have HB3 := Lib.hid (alloc_below HB.out _ hb3)
      have HT3 := Lib.hid hT3; have HLS := Lib.hid hls
      clear hT3 hls hb3 HB HT1 hl5 hl5b hcell
      obtain ⟨hLn, hLb⟩ := lines_bound s.data.toList
      obtain ⟨Ls, hLs⟩ : ∃ Ls, linesL s.data.toList = Ls := ⟨_, rfl⟩
      rw [hLs] at HLS HST hLn hLb ⊢
      have hl0 : s.data.toList.length = s.size := by simp
      rw [hl0] at hLn hLb
      have hLn2 : Ls.length ≤ 1001 := by omega
      have HLB : Hid (∀ L ∈ Ls, L.length ≤ 1000) := Lib.hid (fun L hL => Nat.le_trans (hLb L hL) (by omega))
      clear hl0
      clear hLn hLb
      clear hLs
      obtain ⟨n, hnq⟩ : ∃ n, q.length = n := ⟨_, rfl⟩
      rw [hnq] at hn hnI ⊢
      go_wp2
      go_loopw [7, 47] (fun v7 v47 wr => JoRel ts w3 v7 v47 wr) (fun _ v47 _ => ts.length - (intOf v47).toNat)
      case atStart => exact ⟨0, by omega, rfl, Below.refl _ _, World.ownsRow_nil _ _ _ _⟩
      case round =>
        obtain ⟨k, hk, rfl, hb, hown⟩ := hrel
        by_cases hlt : k < ts.length
        · obtain ⟨kd, tx, L, lp, cp, htk, hlp, hcp, hL1000, hpre, ⟨a0, a1, a2, a3⟩, hline⟩ := round_facts HT3.out hg13 HLS.out hg3 hb HST.out HLB.out hlt
          have hsz3 := hb.size
          have HTK := Lib.hid htk; have HPRE := Lib.hid hpre
          clear htk hpre
          have x1 : (k : Int) < (n : Int) + 1 := by omega
          obtain ⟨i9, hi9, hz9, hs9, hy9⟩ := info_parts info9
          have hge := own_ge hown
          have y1 : decide ((lp : Int) + 1 < 1) = false := by simp; omega
          have y2 : decide ((Ls.length : Int) < (lp : Int) + 1) = false := by simp; omega
          have y4 : decide ((cp : Int) + 1 < 1) = false := by simp; omega
          have y5 : decide ((L.size : Int) + 1 < (cp : Int) + 1) = false := by simp; omega
          have z5 : IntKind.i64.wrap ((L.size : Int) + 1) = (L.size : Int) + 1 := by rw [IntWalk.i64_in _ (by omega)]
          have z6 : IntKind.i64.wrap ((cp : Int) + 1 - 1) = (cp : Int) := by rw [IntWalk.i64_in _ (by omega)]; omega
          have z7 : IntKind.i64.wrap (cp : Int) = (cp : Int) := by rw [IntWalk.i64_in _ (by omega)]
          have z4 : (0 : Int) ≤ (cp : Int) := by omega
          have z3 : (cp : Int) ≤ (L.size : Int) := by omega
          by_cases hk0 : k = 0
          · have y3 : decide ((0 : Int) < (k : Int)) = false := by simp; omega
            have y3n : decide (0 < k) = false := by simp; omega
            have HK0 := Lib.hid hk0; clear hk0
            go_wp2
            go_quiet (fail)
            go_wp2
            go_quiet (exact (prefix_yes L tx cp _ HPRE.out).mono fun e w' h => ⟨h.1, _, h.2⟩)
            by_cases hk4 : kd = 4
            · subst hk4
              go_wp2_with (at_builtin; refine wpList_append_own _ rfl (.tmp 142) (.tmp 143) 31 rfl w3.heap.size 9 i9 _ 1 16 Tryd.underlying31 hi9 hz9 hs9 hy9 rfl (by decide) u7 k (pcells ts k) rfl (World.ownsRow.alloc (hown.alloc _) _) ⟨wr.heap.size + 1, 0, none⟩ 1 1 [.string ⟨#[10]⟩] rfl rfl ?c1 ?c2 ?c3 ?c4 ?c5 ?_)
              case c1 => exact World.news_of_block (cs := #[.string ⟨#[10]⟩]) (t := 9) (fr := (0, 0)) (new_at _ _ _ _)
              case c2 => simp [Value.oneCell']
              case c3 => unfold maxLen; omega
              case c4 => omega
              case c5 => simp; omega
              intro v' w1' hown1 hgrow _
              go_wp2
              exact ⟨jo_next hlt (pieceB_nl HTK.out) ((below_drewN (hb.alloc hsz3 _) _).alloc (by show _ ≤ (wr.alloc _).heap.size; simp; omega) _) hge hgrow hown1, by simp [intOf]; omega⟩
            · have q4 : (kd == 4) = false := by simpa using hk4
              have HK4 := Lib.hid hk4; clear hk4
              go_wp2_with (at_builtin; refine wpList_append_own _ rfl (.tmp 145) (.tmp 148) 31 rfl w3.heap.size 9 i9 _ 1 16 Tryd.underlying31 hi9 hz9 hs9 hy9 rfl (by decide) u7 k (pcells ts k) rfl (World.ownsRow.alloc (hown.alloc _) _) ⟨wr.heap.size + 1, 0, none⟩ 1 1 [.string tx] rfl rfl ?d1 ?d2 ?d3 ?d4 ?d5 ?_)
              case d1 => exact World.news_of_block (cs := #[.string tx]) (t := 9) (fr := (0, 0)) (new_at _ _ _ _)
              case d2 => simp [Value.oneCell']
              case d3 => unfold maxLen; omega
              case d4 => omega
              case d5 => simp; omega
              intro v' w1' hown1 hgrow _
              go_wp2
              exact ⟨jo_next hlt (pieceB_tx HTK.out HK4.out) ((below_drewN (hb.alloc hsz3 _) _).alloc (by show _ ≤ (wr.alloc _).heap.size; simp; omega) _) hge hgrow hown1, by simp [intOf]; omega⟩
          · obtain ⟨j, hj⟩ : ∃ j, k = j + 1 := ⟨k - 1, by omega⟩
            obtain ⟨pl, pc, p2, p3, hor⟩ := prev_facts HT3.out hg13 hb HASC.out hlt hj HTK.out
            have y3 : decide ((0 : Int) < (k : Int)) = true := by simp; omega
            have y3n : decide (0 < k) = true := by simp; omega
            have z8 : IntKind.i64.wrap ((k : Int) - 1) = (j : Int) := by rw [IntWalk.i64_in _ (by omega)]; omega
            have z9 : (j : Int) < (n : Int) + 1 := by omega
            have z10 : (0 : Int) ≤ (j : Int) := by omega
            have z11 : j < n + 1 := by omega
            have HJK := Lib.hid hj; clear hj hk0
            rcases hor with hor | ⟨hor, hor2⟩
            · have v1 : decide ((lp : Int) + 1 < (pl : Int)) = false := by simp; omega
              have v2 : ((lp : Int) + 1 == (pl : Int)) = false := by simp; omega
              clear hor
              go_wp2
              go_quiet (fail)
              go_wp2
              go_quiet (exact (prefix_yes L tx cp _ HPRE.out).mono fun e w' h => ⟨h.1, _, h.2⟩)
              by_cases hk4 : kd = 4
              · subst hk4
                go_wp2_with (at_builtin; refine wpList_append_own _ rfl (.tmp 142) (.tmp 143) 31 rfl w3.heap.size 9 i9 _ 1 16 Tryd.underlying31 hi9 hz9 hs9 hy9 rfl (by decide) u7 k (pcells ts k) rfl (World.ownsRow.alloc (hown.alloc _) _) ⟨wr.heap.size + 1, 0, none⟩ 1 1 [.string ⟨#[10]⟩] rfl rfl ?c1 ?c2 ?c3 ?c4 ?c5 ?_)
                case c1 => exact World.news_of_block (cs := #[.string ⟨#[10]⟩]) (t := 9) (fr := (0, 0)) (new_at _ _ _ _)
                case c2 => simp [Value.oneCell']
                case c3 => unfold maxLen; omega
                case c4 => omega
                case c5 => simp; omega
                intro v' w1' hown1 hgrow _
                go_wp2
                exact ⟨jo_next hlt (pieceB_nl HTK.out) ((below_drewN (hb.alloc hsz3 _) _).alloc (by show _ ≤ (wr.alloc _).heap.size; simp; omega) _) hge hgrow hown1, by simp [intOf]; omega⟩
              · have q4 : (kd == 4) = false := by simpa using hk4
                have HK4 := Lib.hid hk4; clear hk4
                go_wp2_with (at_builtin; refine wpList_append_own _ rfl (.tmp 145) (.tmp 148) 31 rfl w3.heap.size 9 i9 _ 1 16 Tryd.underlying31 hi9 hz9 hs9 hy9 rfl (by decide) u7 k (pcells ts k) rfl (World.ownsRow.alloc (hown.alloc _) _) ⟨wr.heap.size + 1, 0, none⟩ 1 1 [.string tx] rfl rfl ?d1 ?d2 ?d3 ?d4 ?d5 ?_)
                case d1 => exact World.news_of_block (cs := #[.string tx]) (t := 9) (fr := (0, 0)) (new_at _ _ _ _)
                case d2 => simp [Value.oneCell']
                case d3 => unfold maxLen; omega
                case d4 => omega
                case d5 => simp; omega
                intro v' w1' hown1 hgrow _
                go_wp2
                exact ⟨jo_next hlt (pieceB_tx HTK.out HK4.out) ((below_drewN (hb.alloc hsz3 _) _).alloc (by show _ ≤ (wr.alloc _).heap.size; simp; omega) _) hge hgrow hown1, by simp [intOf]; omega⟩
            · have hpl : (pl : Int) = (lp : Int) + 1 := by omega
              rw [hpl] at p2
              clear hpl hor
              have v1 : decide ((lp : Int) + 1 < (lp : Int) + 1) = false := by simp
              have v2 : ((lp : Int) + 1 == (lp : Int) + 1) = true := by simp
              have v3 : decide ((cp : Int) + 1 ≤ (pc : Int)) = false := by simp; omega
              clear hor2
              go_wp2
              go_quiet (fail)
              go_wp2
              go_quiet (exact (prefix_yes L tx cp _ HPRE.out).mono fun e w' h => ⟨h.1, _, h.2⟩)
              by_cases hk4 : kd = 4
              · subst hk4
                go_wp2_with (at_builtin; refine wpList_append_own _ rfl (.tmp 142) (.tmp 143) 31 rfl w3.heap.size 9 i9 _ 1 16 Tryd.underlying31 hi9 hz9 hs9 hy9 rfl (by decide) u7 k (pcells ts k) rfl (World.ownsRow.alloc (hown.alloc _) _) ⟨wr.heap.size + 1, 0, none⟩ 1 1 [.string ⟨#[10]⟩] rfl rfl ?c1 ?c2 ?c3 ?c4 ?c5 ?_)
                case c1 => exact World.news_of_block (cs := #[.string ⟨#[10]⟩]) (t := 9) (fr := (0, 0)) (new_at _ _ _ _)
                case c2 => simp [Value.oneCell']
                case c3 => unfold maxLen; omega
                case c4 => omega
                case c5 => simp; omega
                intro v' w1' hown1 hgrow _
                go_wp2
                exact ⟨jo_next hlt (pieceB_nl HTK.out) ((below_drewN (hb.alloc hsz3 _) _).alloc (by show _ ≤ (wr.alloc _).heap.size; simp; omega) _) hge hgrow hown1, by simp [intOf]; omega⟩
              · have q4 : (kd == 4) = false := by simpa using hk4
                have HK4 := Lib.hid hk4; clear hk4
                go_wp2_with (at_builtin; refine wpList_append_own _ rfl (.tmp 145) (.tmp 148) 31 rfl w3.heap.size 9 i9 _ 1 16 Tryd.underlying31 hi9 hz9 hs9 hy9 rfl (by decide) u7 k (pcells ts k) rfl (World.ownsRow.alloc (hown.alloc _) _) ⟨wr.heap.size + 1, 0, none⟩ 1 1 [.string tx] rfl rfl ?d1 ?d2 ?d3 ?d4 ?d5 ?_)
                case d1 => exact World.news_of_block (cs := #[.string tx]) (t := 9) (fr := (0, 0)) (new_at _ _ _ _)
                case d2 => simp [Value.oneCell']
                case d3 => unfold maxLen; omega
                case d4 => omega
                case d5 => simp; omega
                intro v' w1' hown1 hgrow _
                go_wp2
                exact ⟨jo_next hlt (pieceB_tx HTK.out HK4.out) ((below_drewN (hb.alloc hsz3 _) _).alloc (by show _ ≤ (wr.alloc _).heap.size; simp; omega) _) hge hgrow hown1, by simp [intOf]; omega⟩
        · obtain rfl : k = ts.length := by omega
          have hown2 : wr.ownsRow w3.heap.size 9 1 u7 (ts.map pieceB).length ((ts.map pieceB).map Value.string) := by
            unfold pcells at hown; rw [List.take_length] at hown; rw [List.length_map]; exact hown
          have x2 : ¬ (ts.length : Int) < (n : Int) + 1 := by omega
          have HOWN := Lib.hid hown2
          clear hown hown2 hlt hk hnI
          rw [hn] at x2
          rw [hn]
          go_wp2_with (go_at_call 8; fail)
          refine (join_ret' ts u7 w3.heap.size wr (by omega) (by omega) HOWN.out (Nat.le_trans HJL.out (by omega))).mono ?_
          rintro e w4 ⟨J, rfl, hJ, hb4⟩
          have HJ0 := Lib.hid hJ
          have hJs : J.size ≤ 262144 := by
            have e : J.data.toList.length = J.size := by simp
            rw [← e, hJ]; exact Nat.le_trans HJL.out (by omega)
          clear hJ
          obtain ⟨ms, hms, hkt⟩ := HJ.out 1 1
          rw [← HJ0.out] at hms
          have HMS := Lib.hid hms; have HKT := Lib.hid hkt; clear hms hkt
          go_wp2_with (go_at_call 5; fail)
          refine (tok_good J ms _ hJs HMS.out).mono ?_
          rintro e w5 ⟨g2, c2, rfl, hb5, ht5, hg5⟩
          have HB4 := Lib.hid (hb.trans (hb4.mono hb.size))
          have hs4 := HB4.out.size
          have HB5 := Lib.hid (HB4.out.trans (hb5.mono hs4))
          have hs5 := HB5.out.size
          have HT5 := Lib.hid ht5
          clear hb hb4 hb5 ht5
          go_wp2_with (go_at_call 9; fail)
          have hcall := equalFunc_same (w5.alloc (.cells #[.int .i64 0, .int .i64 0] 25)) g1 g2 c1 c2 ts ms (toks_alloc (toks_below HT3.out HB5.out hg13) (by omega) _) (toks_alloc HT5.out hg5 _) (by simp; omega) (by simp; omega) HKT.out (by omega)
          rw [hn] at hcall
          refine hcall.mono ?_
          rintro e w6 ⟨rfl, hb6⟩
          go_wp2
          go_ret
          exact ⟨rfl, (HB3.out.trans (HB5.out.mono HB3.out.size)).trans (((Below.refl _ _).alloc (Nat.le_refl _) _).trans (hb6.mono (by simp)) |>.mono (by have := HB3.out.size; omega))⟩
end Go.Proofs.YtkabmmpldanmcaaDoor
