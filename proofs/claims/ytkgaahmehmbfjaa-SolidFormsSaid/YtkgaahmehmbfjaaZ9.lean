/- The cuts of a side as the reference finds them, pure: the next greater one, again and again. The reference: the cuts of a side. The reference: the parts of a box. BoxCovers. -/
import Derived.Test.YtkgaahmehmbfjaaZ2
import Derived.Test.YtkgaahmehmbfjaaZ6
import Derived.Test.YtkgaahmehmbfjaaZ8
namespace Go.Proofs.Ytkgaahmehmbfjaa
set_option linter.unusedVariables false
set_option linter.unusedSimpArgs false

def nx1 (last acc e : Int) : Int := if last < e ∧ e < acc then e else acc
def nxF (last acc : Int) (os : List S2) : Int := os.foldl (fun a o => nx1 last (nx1 last a o.1) o.2) acc
theorem nx1_spec {last acc : Int} (e : Int) (h : last < acc) : last < nx1 last acc e ∧ nx1 last acc e ≤ acc ∧ (nx1 last acc e = acc ∨ nx1 last acc e = e) ∧ (last < e → nx1 last acc e ≤ e) := by
  unfold nx1
  split <;> omega
theorem nxF_spec {last : Int} : ∀ (os : List S2) (acc : Int), last < acc → last < nxF last acc os ∧ nxF last acc os ≤ acc ∧ (nxF last acc os = acc ∨ ∃ o ∈ os, nxF last acc os = o.1 ∨ nxF last acc os = o.2) ∧
    ∀ o ∈ os, (last < o.1 → nxF last acc os ≤ o.1) ∧ (last < o.2 → nxF last acc os ≤ o.2)
  | [], acc, h => ⟨h, Int.le_refl _, .inl rfl, fun o ho => by cases ho⟩
  | o :: os, acc, h => by
    have s1 := nx1_spec o.1 h
    have s2 := nx1_spec (acc := nx1 last acc o.1) o.2 s1.1
    have s3 := nxF_spec os (nx1 last (nx1 last acc o.1) o.2) s2.1
    have e : nxF last acc (o :: os) = nxF last (nx1 last (nx1 last acc o.1) o.2) os := rfl
    rw [e]
    generalize nx1 last acc o.1 = b at *
    generalize nx1 last b o.2 = c at *
    generalize nxF last c os = r at *
    refine ⟨s3.1, by omega, ?_, fun o' ho' => ?_⟩
    · rcases s3.2.2.1 with k | ⟨o', ho', k⟩
      · rcases s2.2.2.1 with k2 | k2
        · rcases s1.2.2.1 with k1 | k1
          · left; omega
          · right; exact ⟨o, List.mem_cons_self .., .inl (by omega)⟩
        · right; exact ⟨o, List.mem_cons_self .., .inr (by omega)⟩
      · right; exact ⟨o', List.mem_cons_of_mem _ ho', k⟩
    · rcases List.mem_cons.1 ho' with rfl | ho'
      · refine ⟨fun hl => ?_, fun hl => ?_⟩
        · have := s1.2.2.2 hl; omega
        · have := s2.2.2.2 hl; omega
      · exact s3.2.2.2 o' ho'
theorem nxF_take (last acc : Int) (os : List S2) {k : Nat} (h : k < os.length) : nxF last acc (os.take (k + 1)) = nx1 last (nx1 last (nxF last acc (os.take k)) os[k].1) os[k].2 := by
  unfold nxF
  rw [List.take_succ_eq_append_getElem h, List.foldl_append]
  rfl
/-- What the list of cuts is, once it reaches to `last`. -/
structure Cin (lo hi : Int) (os : List S2) (X : List Int) (last : Int) : Prop where
  lo_ : lo ≤ last
  hi_ : last ≤ hi
  ne : X ≠ []
  last_ : X.getLast? = some last
  asc : Asc X
  sub : ∀ x ∈ X, x ∈ ends lo hi os
  all : ∀ e ∈ ends lo hi os, e ≤ last → e ∈ X
  len : (X.length : Int) ≤ last - lo + 1
theorem ends_b {lo hi : Int} {os : List S2} (h : lo ≤ hi) {e : Int} (he : e ∈ ends lo hi os) : lo ≤ e ∧ e ≤ hi := by
  rw [ends_mem] at he
  rcases he with (rfl | rfl) | ⟨o, -, -, h1, h2⟩
  · exact ⟨Int.le_refl _, h⟩
  · exact ⟨h, Int.le_refl _⟩
  · omega
theorem Cin.first {lo hi : Int} (os : List S2) (h : lo ≤ hi) : Cin lo hi os [lo] lo := by
  refine ⟨Int.le_refl _, h, by simp, rfl, List.pairwise_singleton _ _, fun x hx => ?_, fun e he hl => ?_, by simp⟩
  · rw [List.mem_singleton.1 hx, ends_mem]; exact .inl (.inl rfl)
  · have := (ends_b h he).1
    rw [show e = lo by omega]; simp
theorem Cin.le {lo hi : Int} {os : List S2} {X : List Int} {last : Int} (h : Cin lo hi os X last) : ∀ x ∈ X, x ≤ last := by
  intro x hx
  obtain ⟨Y, hY⟩ := List.getLast?_eq_some_iff.1 h.last_
  have ha := h.asc
  rw [hY] at hx ha
  rcases List.mem_append.1 hx with hx | hx
  · exact Int.le_of_lt ((List.pairwise_append.1 ha).2.2 x hx last (by simp))
  · rw [List.mem_singleton.1 hx]; exact Int.le_refl _
theorem Cin.next {lo hi : Int} {os : List S2} {X : List Int} {last : Int} (h : Cin lo hi os X last) (hl : last < hi) : Cin lo hi os (X ++ [nxF last hi os]) (nxF last hi os) := by
  obtain ⟨s1, s2, s3, s4⟩ := nxF_spec os hi hl
  have hl0 := h.lo_
  have hle := h.le
  have hlen := h.len
  generalize hr : nxF last hi os = r at *
  have hmem : r ∈ ends lo hi os := by
    rw [ends_mem]
    rcases s3 with k | ⟨o, ho, k⟩
    · exact .inl (.inr k)
    · by_cases hh : r = hi
      · exact .inl (.inr hh)
      · exact .inr ⟨o, ho, k, by omega, by omega⟩
  refine ⟨by omega, s2, by simp, by simp, ?_, fun x hx => ?_, fun e he hle' => ?_, ?_⟩
  · refine List.pairwise_append.2 ⟨h.asc, List.pairwise_singleton _ _, fun x hx y hy => ?_⟩
    rw [List.mem_singleton.1 hy]
    have := hle x hx; omega
  · rcases List.mem_append.1 hx with hx | hx
    · exact h.sub x hx
    · rw [List.mem_singleton.1 hx]; exact hmem
  · by_cases hc : e ≤ last
    · exact List.mem_append_left _ (h.all e he hc)
    · have : e = r := by
        rw [ends_mem] at he
        rcases he with (rfl | rfl) | ⟨o, ho, k, k1, k2⟩
        · omega
        · omega
        · have := s4 o ho
          rcases k with k | k
          · have := this.1 (by omega); omega
          · have := this.2 (by omega); omega
      rw [this]; simp
  · rw [List.length_append]; simp; omega
/-- The cuts of a side by others. -/
def refX (lo hi : Int) (os : List S2) : List Int := if lo = hi then [lo] else srt (ends lo hi os)
theorem Cin.done {lo hi : Int} {os : List S2} {X : List Int} {last : Int} (h : Cin lo hi os X last) (hl : ¬ last < hi) (hne : lo ≠ hi) : X = refX lo hi os := by
  unfold refX
  rw [if_neg hne]
  obtain ⟨a1, a2⟩ := srt_asc (ends lo hi os)
  refine asc_eq h.asc a1 fun x => ⟨fun hx => (a2 x).2 (h.sub x hx), fun hx => ?_⟩
  have hx := (a2 x).1 hx
  have h1 := h.hi_
  have h2 := h.lo_
  exact h.all x hx (by have := (ends_b (by omega) hx).2; omega)
theorem Cin.none {lo hi : Int} {os : List S2} {X : List Int} {last : Int} (h : Cin lo hi os X last) (he : lo = hi) : X = refX lo hi os := by
  unfold refX
  rw [if_pos he]
  have hx : ∀ x ∈ X, x = lo := fun x hx => by have := ends_b (by omega) (h.sub x hx); omega
  have ha := h.asc
  have hn := h.ne
  rcases X with _ | ⟨x, _ | ⟨y, Y⟩⟩
  · exact absurd rfl hn
  · rw [hx x (by simp)]
  · rw [Asc, List.pairwise_cons] at ha
    have := ha.1 y (by simp)
    have h1 := hx x (by simp)
    have h2 := hx y (by simp)
    omega
/-- The pairs of neighbours, or a single one with itself. -/
def prX (X : List Int) : List S2 := (List.range (max 1 (X.length - 1))).map fun i => (X.getD i 0, X.getD (min (i + 1) (X.length - 1)) 0)
theorem refX_len {lo hi : Int} (os : List S2) (h : lo ≠ hi) : 2 ≤ (refX lo hi os).length := by
  unfold refX
  rw [if_neg h]
  obtain ⟨a1, a2⟩ := srt_asc (ends lo hi os)
  have h1 := (a2 lo).2 (by rw [ends_mem]; exact .inl (.inl rfl))
  have h2 := (a2 hi).2 (by rw [ends_mem]; exact .inl (.inr rfl))
  generalize srt (ends lo hi os) = X at *
  rcases X with _ | ⟨x, _ | ⟨y, Y⟩⟩
  · cases h1
  · rw [List.mem_singleton] at h1 h2; omega
  · simp
theorem prX_cut (lo hi : Int) (os : List S2) : prX (refX lo hi os) = cutS lo hi os := by
  unfold cutS
  by_cases h : lo = hi
  · subst h
    unfold refX prX
    rw [if_pos rfl, if_pos rfl]
    rfl
  · rw [if_neg h]
    have hl := refX_len os h
    have e : srt (ends lo hi os) = refX lo hi os := by unfold refX; rw [if_neg h]
    rw [e]
    generalize refX lo hi os = X at *
    unfold prX prs
    rw [show max 1 (X.length - 1) = X.length - 1 by omega]
    refine List.map_congr_left fun i hi => ?_
    rw [List.mem_range] at hi
    rw [show min (i + 1) (X.length - 1) = i + 1 by omega]
theorem prX_len (X : List Int) : (prX X).length = max 1 (X.length - 1) := by simp [prX]
theorem prX_at {X : List Int} {i : Nat} (h : i < (prX X).length) (hn : X ≠ []) : ∃ (h1 : i < X.length) (h2 : min (i + 1) (X.length - 1) < X.length), (prX X)[i] = (X[i], X[min (i + 1) (X.length - 1)]) := by
  have hl := List.length_pos_iff.2 hn
  have h' := h
  rw [prX_len] at h'
  refine ⟨by omega, by omega, ?_⟩
  simp [prX, List.getD]
  rw [List.getElem?_eq_getElem (show i < X.length by omega), List.getElem?_eq_getElem (show min (i + 1) (X.length - 1) < X.length by omega)]
  simp
def pbox (p q r : S2) : Bx := ⟨p.1, q.1, r.1, p.2, q.2, r.2⟩
theorem cov_parts (l : List Bx) (b : Bx) : covB l b = true ↔ ∀ p ∈ cutS b.a b.d (sds l 0), ∀ q ∈ cutS b.b b.e (sds l 1), ∀ r ∈ cutS b.c b.f (sds l 2), ∃ x ∈ l, conB x (pbox p q r) = true := by
  have e : ∀ (x : Bx) (p q r : S2), conB x (pbox p q r) = true ↔ cn (x.side 0) p = true ∧ cn (x.side 1) q = true ∧ cn (x.side 2) r = true := by
    intro x p q r
    simp only [conB, pbox, cn, Bx.side, Bool.and_eq_true]
    constructor
    · rintro ⟨⟨a, b⟩, c⟩; exact ⟨a, b, c⟩
    · rintro ⟨a, b, c⟩; exact ⟨⟨a, b⟩, c⟩
  simp only [e]
  unfold covB cov3 hold
  simp only [List.all_map, List.all_eq_true, Function.comp, and3, hm_bit]
  constructor
  · intro h p hp q hq r hr
    obtain ⟨j, ⟨h1, k1⟩, ⟨h2, k2⟩, ⟨h3, k3⟩⟩ := h p hp q hq r hr
    exact ⟨l[j], List.getElem_mem h1, k1, k2, k3⟩
  · intro h p hp q hq r hr
    obtain ⟨x, hx, k1, k2, k3⟩ := h p hp q hq r hr
    obtain ⟨j, hj, rfl⟩ := List.mem_iff_getElem.1 hx
    exact ⟨j, ⟨hj, k1⟩, ⟨hj, k2⟩, ⟨hj, k3⟩⟩
def inB (l : List Bx) (x : Bx) : Bool := l.any fun y => conB y x
/-- The parts of a box between the cuts of its sides. -/
def prt (X Y Z : List S2) : List Bx := X.flatMap fun p => Y.flatMap fun q => Z.map fun r => pbox p q r
theorem cov_prt (l : List Bx) (b : Bx) : covB l b = (prt (cutS b.a b.d (sds l 0)) (cutS b.b b.e (sds l 1)) (cutS b.c b.f (sds l 2))).all (inB l) := by
  rw [Bool.eq_iff_iff, cov_parts, List.all_eq_true]
  unfold prt inB
  simp only [List.mem_flatMap, List.mem_map, List.any_eq_true]
  constructor
  · rintro h x ⟨p, hp, q, hq, r, hr, rfl⟩
    exact h p hp q hq r hr
  · exact fun h p hp q hq r hr => h _ ⟨p, hp, q, hq, r, hr, rfl⟩
end Go.Proofs.Ytkgaahmehmbfjaa
namespace Go.Proofs.Ytkgaahmehmbfjaa
open Go.ChangeShapes Go.WideShapes Go.ChangeAt Go.RowKit
set_option linter.unusedVariables false
set_option linter.unusedSimpArgs false

theorem env_row {w w1 w2 : World} {g : Nat} {t : TypeId} {cs : Array Value} {row : Option Nat} (E : Env w w1 [⟨g, t, cs⟩]) (hg : w1.grownBy w2 row) (hr : ∀ k, row = some k → w.heap.size + 1 ≤ k) (hgw : g = w.heap.size := by rfl) : Env w w2 [⟨g, t, cs⟩] := by
  obtain ⟨h1, h2, h3, h4, h5⟩ := E
  refine ⟨h1.grown hg h1.size (fun k hk => by have := hr k hk; omega), h2, Has.grown_ h3 hg (fun e => by have := hr g e.symm; dsimp only at *; omega), h4, h5⟩
def slen : Value → Nat
  | .slice _ n _ => n
  | _ => 0
theorem s_cu {w W' : World} {b : Bx} {g k : Nat} {z : Int} (E : Env w W' [⟨w.heap.size, 30, #[.int .i64 b.a, .int .i64 b.b, .int .i64 b.c, .int .i64 b.d, .int .i64 b.e, .int .i64 b.f]⟩]) (h : W'.cell? ⟨g, k, none⟩ = some (.int .i64 z)) : Env w W' [⟨w.heap.size, 30, #[.int .i64 b.a, .int .i64 b.b, .int .i64 b.c, .int .i64 b.d, .int .i64 b.e, .int .i64 b.f]⟩] ∧ W'.cell? ⟨w.heap.size, 0, none⟩ = some (.int .i64 b.a) ∧ W'.cell? ⟨w.heap.size, 1, none⟩ = some (.int .i64 b.b) ∧ W'.cell? ⟨w.heap.size, 2, none⟩ = some (.int .i64 b.c) ∧ W'.cell? ⟨w.heap.size, 3, none⟩ = some (.int .i64 b.d) ∧ W'.cell? ⟨w.heap.size, 4, none⟩ = some (.int .i64 b.e) ∧ W'.cell? ⟨w.heap.size, 5, none⟩ = some (.int .i64 b.f) ∧ W'.cell? ⟨g, k, none⟩ = some (.int .i64 z) := by
  have C := E.cells
  simp [BC, CF] at C
  simp [C, E, h]
set_option maxHeartbeats 32000000 in
set_option maxRecDepth 100000 in
theorem rcuts_any (ax : Int) (f : Int → Int → Int → Int) (h44 : ∀ p q r W, Calls Try.prog 39 #[.agg #[.int .i64 p, .int .i64 q, .int .i64 r], .int .i64 ax] W fun E w' => E = .returned (.int .i64 (f p q r)) ∧ Below W.heap.size W w')
    (p : Option Addr) (l : List Bx) (cap : Nat) (b : Bx) (w : World) (hS : Sl w p l) (hl : l.length ≤ 40) (os : List S2) (hos : os = l.map fun x => (f x.a x.b x.c, f x.d x.e x.f)) (lo hi : Int) (elo : f b.a b.b b.c = lo) (ehi : f b.d b.e b.f = hi) (h : lo ≤ hi) (hb0 : -1048576 ≤ lo) (hb1 : hi ≤ 1048576) :
    Calls Try.prog 81 #[.slice p l.length cap, b.val, .int .i64 ax] w fun e w' => ∃ v, e = .returned v ∧ OwnZ w.heap.size w' v (refX lo hi os) ∧ Below w.heap.size w w' := by
  obtain ⟨i0, hi', hz0, hz1, hz2⟩ := info_parts info3
  have E := (Env.nil w).add w.heap.size 30 #[.int .i64 b.a, .int .i64 b.b, .int .i64 b.c, .int .i64 b.d, .int .i64 b.e, .int .i64 b.f] rfl
  have clo := fun W => h44 b.a b.b b.c W
  have chi := fun W => h44 b.d b.e b.f W
  rw [elo] at clo
  rw [ehi] at chi
  clear elo ehi
  have hol : os.length = l.length := by rw [hos]; simp
  have HOL := Lib.hid hol
  have HOS := Lib.hid hos
  have HLH := Lib.hid (And.intro h (And.intro hb0 hb1))
  have C := E.cells
  simp [BC, CF] at C
  clear hos hol h hb0 hb1
  unfold Bx.val
  go_enter Try.func81, Try.ntmps81
  go_wp2_with (go_at_call 39; (with_reducible refine (clo _).mono ?_); rintro X0 w1 ⟨rfl, hb⟩; replace E := E.on hb; clear hb C)
  have hO : OwnZ (w.heap.size + 1) (w1.alloc (.cells #[.int .i64 lo] 3)) (.slice (some ⟨w1.heap.size, 0, none⟩) 1 1) [lo] := by
    have hs := (envb E).size
    have hs2 := E.lt 0 (by simp)
    simp only [numB] at hs2
    have := World.ownsRow_lit (e := 3) (size := 1) (base := w.heap.size + 1) w1 #[.int .i64 lo] 1 (by omega) (by unfold maxLen; omega) (by simp)
    simpa [OwnZ, zv] using this
  replace E := E.more (.cells #[.int .i64 lo] 3)
  go_loopw [7] (fun v7 wr => ∃ (X : List Int) (last : Int), Hid (Cin lo hi os X last) ∧ OwnZ (w.heap.size + 1) wr v7 X ∧ Env w wr [⟨w.heap.size, 30, #[.int .i64 b.a, .int .i64 b.b, .int .i64 b.c, .int .i64 b.d, .int .i64 b.e, .int .i64 b.f]⟩]) (fun v _ => 2097154 - slen v)
  case atStart => exact ⟨[lo], lo, Lib.hid (Cin.first os HLH.out.1), hO, E⟩
  case round =>
    clear E hO
    obtain ⟨X, last, HC, hO, E⟩ := hrel
    obtain ⟨q, c, rfl, hC⟩ := (Own.rd zl (ownz.2 hO)).z
    have hne : 0 < X.length := List.length_pos_iff.2 HC.out.ne
    have hXl : (X.length : Int) ≤ 2097153 := by have h1 := HC.out.len; have h2 := HC.out.hi_; have h3 := HLH.out; omega
    have W1 : IntKind.i64.wrap ((X.length : Int) - 1) = ((X.length - 1 : Nat) : Int) := by rw [IntWalk.i64_in _ (by omega)]; omega
    obtain ⟨g, rfl, hc⟩ := hC (X.length - 1) (by omega)
    have hlast : X[X.length - 1]'(by omega) = last := by
      have h1 := HC.out.last_
      rw [List.getLast?_eq_getElem?, List.getElem?_eq_getElem (by omega)] at h1
      exact Option.some.inj h1
    rw [hlast] at hc
    clear hlast
    have q1 : (0 : Int) ≤ ((X.length - 1 : Nat) : Int) := by omega
    have q2 : ((X.length - 1 : Nat) : Int) < (X.length : Int) := by omega
    go_wp2_with fail
    refine wp_region_plan 10 [(0, true), (1, true), (2, true), (3, true), (4, true), (5, true), (6, true), (7, true), (8, true), (9, false)] (fun W' => Env w W' [⟨w.heap.size, 30, #[.int .i64 b.a, .int .i64 b.b, .int .i64 b.c, .int .i64 b.d, .int .i64 b.e, .int .i64 b.f]⟩] ∧ W'.cell? ⟨w.heap.size, 0, none⟩ = some (.int .i64 b.a) ∧ W'.cell? ⟨w.heap.size, 1, none⟩ = some (.int .i64 b.b) ∧ W'.cell? ⟨w.heap.size, 2, none⟩ = some (.int .i64 b.c) ∧ W'.cell? ⟨w.heap.size, 3, none⟩ = some (.int .i64 b.d) ∧ W'.cell? ⟨w.heap.size, 4, none⟩ = some (.int .i64 b.e) ∧ W'.cell? ⟨w.heap.size, 5, none⟩ = some (.int .i64 b.f) ∧ W'.cell? ⟨g, X.length - 1, none⟩ = some (.int .i64 last)) (by kernel_rfl) (by kernel_rfl) (fun _ _ d _ _ h => by cases d <;> exact h) (s_cu E.drw (show wr.drew.cell? _ = _ from hc)) ?_
    simp only [List.filterMap_cons, List.filterMap_nil, List.getElem?_cons_zero, List.getElem?_cons_succ, Option.map_some, List.drop_succ_cons, List.drop_zero]
    iterate 9 (refine wpPlan_still (v := ?_) (Or.inl ⟨by rfl, ?_⟩) ?_; rotate_left; (focus (intro W hW; (try dsimp only at hW); go_split_ands; go_simp; try with_reducible rfl)); try simp only [Act.put, List.setIfInBounds_toArray, List.set_cons_zero, List.set_cons_succ])
    refine wpPlan_only (fun K hK => ?_)
    try go_simp
    (go_at_call 39; (with_reducible refine (chi _).mono ?_); rintro X1 w2 ⟨rfl, hb⟩)
    have HB := belows (below_dr (Below.refl wr.heap.size wr)) hb
    have E2 := E.on HB
    have hc2 := cell_later HB hc
    have hO2 := own_on hO HB
    clear hb
    try go_wp2_with fail
    refine hK.out _ _ (s_cu E2 hc2) ?_
    clear hK K
    try simp only [Act.put, List.setIfInBounds_toArray, List.set_cons_zero, List.set_cons_succ]
    refine wpPlan_end ?_
    clear E hc hO hC
    have C := E2.cells
    simp [BC, CF] at C
    by_cases hlh : last < hi
    · have g1 : decide (last < hi) = true := decide_eq_true hlh
      have HL := Lib.hid hlh
      clear hlh
      go_wp2_with (go_at_call 39; (with_reducible refine (chi _).mono ?_); rintro X1 w3 ⟨rfl, hb⟩; have E3 := E2.on hb; have hO3 := own_on hO2 hb; clear E2 hO2 hc2 C hb)
      go_loopw [9, 10] (fun v9 v10 wr => ∃ (i : Nat) (nx : Int), v10 = .int .i64 i ∧ v9 = .int .i64 nx ∧ i ≤ l.length ∧ Hid (nx = nxF last hi (os.take i)) ∧ Env w wr [⟨w.heap.size, 30, #[.int .i64 b.a, .int .i64 b.b, .int .i64 b.c, .int .i64 b.d, .int .i64 b.e, .int .i64 b.f]⟩] ∧ Below w3.heap.size w3 wr) (fun _ v _ => l.length - (intOf v).toNat)
      case atStart => exact ⟨0, hi, rfl, rfl, Nat.zero_le _, Lib.hid rfl, E3, Below.refl _ _⟩
      case round =>
        clear E3
        obtain ⟨i, nx, rfl, rfl, hil, HN, E, HB3⟩ := hrel
        by_cases hlt : i < l.length
        · have g2 : decide ((i : Int) < (l.length : Int)) = true := by simp [hlt]
          have W2 : IntKind.i64.wrap ((i : Int) + 1) = ((i + 1 : Nat) : Int) := by rw [IntWalk.i64_in _ (by omega)]; omega
          obtain ⟨a, rfl, e0, e1, e2, e3, e4, e5⟩ := hS.at hlt
          have q3 : (0 : Int) ≤ (i : Int) := by omega
          have q4 : (i : Int) < (l.length : Int) := by omega
          obtain ⟨o1, O1⟩ : ∃ o, Hid (f l[i].a l[i].b l[i].c = o) := ⟨_, Lib.hid rfl⟩
          obtain ⟨o2, O2⟩ : ∃ o, Hid (f l[i].d l[i].e l[i].f = o) := ⟨_, Lib.hid rfl⟩
          have HT : Hid (nxF last hi (os.take (i + 1)) = nx1 last (nx1 last nx o1) o2) := Lib.hid (by
            have hio : i < os.length := by rw [HOL.out]; exact hlt
            rw [nxF_take last hi os hio, ← HN.out]
            have e : os[i] = (o1, o2) := by simp only [HOS.out, List.getElem_map, O1.out, O2.out]
            rw [e])
          have c1 := fun W => h44 l[i].a l[i].b l[i].c W
          have c2 := fun W => h44 l[i].d l[i].e l[i].f W
          rw [O1.out] at c1
          rw [O2.out] at c2
          generalize l[i].a = la at *
          generalize l[i].b = lb at *
          generalize l[i].c = lc at *
          generalize l[i].d = ld at *
          generalize l[i].e = le at *
          generalize l[i].f = lf at *
          go_wp2_with fail
          go_loopw [9, 11] (fun v9 v11 wq => ∃ (k : Nat) (nn : Int), v11 = .int .i64 k ∧ v9 = .int .i64 nn ∧ k ≤ 2 ∧ Hid (nn = if k = 0 then nx else if k = 1 then nx1 last nx o1 else nx1 last (nx1 last nx o1) o2) ∧ Env w wq [⟨w.heap.size, 30, #[.int .i64 b.a, .int .i64 b.b, .int .i64 b.c, .int .i64 b.d, .int .i64 b.e, .int .i64 b.f]⟩] ∧ Below w3.heap.size w3 wq) (fun _ v _ => 2 - (intOf v).toNat)
          case atStart => exact ⟨0, nx, rfl, rfl, by omega, Lib.hid rfl, E, HB3⟩
          case round =>
            clear E HB3
            obtain ⟨k, nn, rfl, rfl, hk2, HK, E, HB3⟩ := hrel
            have d0 := cell_later (envb E) e0
            have d1 := cell_later (envb E) e1
            have d2 := cell_later (envb E) e2
            have d3 := cell_later (envb E) e3
            have d4 := cell_later (envb E) e4
            have d5 := cell_later (envb E) e5
            rcases (by omega : k = 0 ∨ k = 1 ∨ k = 2) with rfl | rfl | rfl
            · have hn0 : nn = nx := by rw [HK.out, if_pos rfl]
              subst hn0
              clear HK
              by_cases y1 : last < o1
              · by_cases y2 : o1 < nn
                · have HK2 : Hid (o1 = nx1 last nn o1) := Lib.hid (by unfold nx1; rw [if_pos ⟨y1, y2⟩])
                  have z1 : decide (last < o1) = true := decide_eq_true y1
                  have z2 : decide (o1 < nn) = true := decide_eq_true y2
                  clear y1 y2
                  go_wp2_with (go_at_call 39; (with_reducible refine (c1 _).mono ?_); rintro X1 w4 ⟨rfl, hb⟩; replace E := E.on hb; replace HB3 := belows HB3 hb; clear hb)
                  exact ⟨⟨1, o1, rfl, rfl, by omega, Lib.hid HK2.out, E, HB3⟩, by simp [intOf]⟩
                · have HK2 : Hid (nn = nx1 last nn o1) := Lib.hid (by unfold nx1; rw [if_neg (fun h => y2 h.2)])
                  have z1 : decide (last < o1) = true := decide_eq_true y1
                  have z2 : decide (o1 < nn) = false := decide_eq_false y2
                  clear y1 y2
                  go_wp2_with (go_at_call 39; (with_reducible refine (c1 _).mono ?_); rintro X1 w4 ⟨rfl, hb⟩; replace E := E.on hb; replace HB3 := belows HB3 hb; clear hb)
                  exact ⟨⟨1, nn, rfl, rfl, by omega, Lib.hid HK2.out, E, HB3⟩, by simp [intOf]⟩
              · have HK2 : Hid (nn = nx1 last nn o1) := Lib.hid (by unfold nx1; rw [if_neg (fun h => y1 h.1)])
                have z1 : decide (last < o1) = false := decide_eq_false y1
                clear y1
                go_wp2_with (go_at_call 39; (with_reducible refine (c1 _).mono ?_); rintro X1 w4 ⟨rfl, hb⟩; replace E := E.on hb; replace HB3 := belows HB3 hb; clear hb)
                exact ⟨⟨1, nn, rfl, rfl, by omega, Lib.hid HK2.out, E, HB3⟩, by simp [intOf]⟩
            · have hn0 : Hid (nn = nx1 last nx o1) := Lib.hid (by rw [HK.out, if_neg (by decide), if_pos rfl])
              clear HK
              by_cases y1 : last < o2
              · by_cases y2 : o2 < nn
                · have HK2 : Hid (o2 = nx1 last (nx1 last nx o1) o2) := Lib.hid (by rw [← hn0.out]; unfold nx1; rw [if_pos ⟨y1, y2⟩])
                  have z1 : decide (last < o2) = true := decide_eq_true y1
                  have z2 : decide (o2 < nn) = true := decide_eq_true y2
                  clear y1 y2
                  go_wp2_with (go_at_call 39; (first | with_reducible refine (c1 _).mono ?_ | with_reducible refine (c2 _).mono ?_); rintro X1 w4 ⟨rfl, hb⟩; replace E := E.on hb; replace HB3 := belows HB3 hb; replace d3 := cell_later hb d3; replace d4 := cell_later hb d4; replace d5 := cell_later hb d5; clear hb)
                  exact ⟨⟨2, o2, rfl, rfl, by omega, Lib.hid HK2.out, E, HB3⟩, by simp [intOf]⟩
                · have HK2 : Hid (nn = nx1 last (nx1 last nx o1) o2) := Lib.hid (by rw [← hn0.out]; unfold nx1; rw [if_neg (fun h => y2 h.2)])
                  have z1 : decide (last < o2) = true := decide_eq_true y1
                  have z2 : decide (o2 < nn) = false := decide_eq_false y2
                  clear y1 y2
                  go_wp2_with (go_at_call 39; (first | with_reducible refine (c1 _).mono ?_ | with_reducible refine (c2 _).mono ?_); rintro X1 w4 ⟨rfl, hb⟩; replace E := E.on hb; replace HB3 := belows HB3 hb; replace d3 := cell_later hb d3; replace d4 := cell_later hb d4; replace d5 := cell_later hb d5; clear hb)
                  exact ⟨⟨2, nn, rfl, rfl, by omega, Lib.hid HK2.out, E, HB3⟩, by simp [intOf]⟩
              · have HK2 : Hid (nn = nx1 last (nx1 last nx o1) o2) := Lib.hid (by rw [← hn0.out]; unfold nx1; rw [if_neg (fun h => y1 h.1)])
                have z1 : decide (last < o2) = false := decide_eq_false y1
                clear y1
                go_wp2_with (go_at_call 39; (first | with_reducible refine (c1 _).mono ?_ | with_reducible refine (c2 _).mono ?_); rintro X1 w4 ⟨rfl, hb⟩; replace E := E.on hb; replace HB3 := belows HB3 hb; replace d3 := cell_later hb d3; replace d4 := cell_later hb d4; replace d5 := cell_later hb d5; clear hb)
                exact ⟨⟨2, nn, rfl, rfl, by omega, Lib.hid HK2.out, E, HB3⟩, by simp [intOf]⟩
            · have hn0 : Hid (nn = nx1 last (nx1 last nx o1) o2) := Lib.hid (by rw [HK.out, if_neg (by decide), if_neg (by decide)])
              go_wp2
              exact ⟨⟨i + 1, nn, rfl, rfl, hlt, Lib.hid (by rw [HT.out, hn0.out]), E, HB3⟩, by simp [intOf]; omega⟩
        · have g2 : decide ((i : Int) < (l.length : Int)) = false := by simp; omega
          have HN2 : Hid (nx = nxF last hi os) := Lib.hid (by rw [HN.out, List.take_of_length_le (by rw [HOL.out]; omega)])
          have hO4 := own_on hO3 HB3
          have hs := (envb E).size
          have hs2 := E.lt 0 (by simp)
          simp only [numB] at hs2
          have HCN := Lib.hid (HC.out.next HL.out)
          rw [← HN2.out] at HCN
          clear hO3 HB3 HN
          go_wp2_with (at_builtin; refine wpList_append_own_at _ rfl _ _ 57 rfl (w.heap.size + 1) 3 i0 _ 1 8 Try.underlying57 hi' hz0 hz1 hz2 rfl (by decide) _ X.length (zv X) rfl (own_on hO4 (al1 _ _)) ⟨_, 0, none⟩ 1 1 [.int .i64 nx] rfl rfl (cell_one_new _ _ _) (by simp [Value.oneCell']) (by unfold maxLen; omega) (by omega) (by simp; omega) ?_)
          intro v' w5 p1 p2 p3 p4
          have ob := al1 wr (.cells #[.int .i64 nx] 3)
          have O5 : OwnZ (w.heap.size + 1) w5 v' (X ++ [nx]) := by
            unfold OwnZ
            rw [List.length_append, show zv (X ++ [nx]) = zv X ++ [.int .i64 nx] by simp [zv]]
            exact p1
          have E5 : Env w w5 [⟨w.heap.size, 30, #[.int .i64 b.a, .int .i64 b.b, .int .i64 b.c, .int .i64 b.d, .int .i64 b.e, .int .i64 b.f]⟩] := env_row (E.on ob) p2 (fun k hk => (World.ownsRow.lt hO4 k hk).1)
          have hv' : slen v' = X.length + 1 := by
            obtain ⟨q', c', e', -⟩ := (Own.rd zl (ownz.2 O5)).z
            rw [e']; simp [slen]
          clear p1 p2 p3 p4 ob
          go_wp2
          go_roundw
          · exact ⟨X ++ [nx], nx, HCN, O5, E5⟩
          · rw [hv']; show 2097154 - (X.length + 1) < 2097154 - X.length; omega
    · have g1 : decide (last < hi) = false := decide_eq_false hlh
      have HE : Hid (X = refX lo hi os) := Lib.hid (by
        by_cases e : lo = hi
        · exact HC.out.none e
        · exact HC.out.done hlh e)
      go_wp2
      go_ret
      exact ⟨_, rfl, by rw [← HE.out]; exact ownz.1 (Own.mono (ownz.2 hO2) (by omega)), envb E2⟩
end Go.Proofs.Ytkgaahmehmbfjaa
namespace Go.Proofs.Ytkgaahmehmbfjaa
open Go.ChangeShapes Go.WideShapes Go.ChangeAt Go.RowKit
set_option linter.unusedVariables false
set_option linter.unusedSimpArgs false

theorem s_b {w W' : World} {b : Bx} (E : Env w W' [⟨w.heap.size, 30, #[.int .i64 b.a, .int .i64 b.b, .int .i64 b.c, .int .i64 b.d, .int .i64 b.e, .int .i64 b.f]⟩]) : Env w W' [⟨w.heap.size, 30, #[.int .i64 b.a, .int .i64 b.b, .int .i64 b.c, .int .i64 b.d, .int .i64 b.e, .int .i64 b.f]⟩] ∧ W'.cell? ⟨w.heap.size, 0, none⟩ = some (.int .i64 b.a) ∧ W'.cell? ⟨w.heap.size, 1, none⟩ = some (.int .i64 b.b) ∧ W'.cell? ⟨w.heap.size, 2, none⟩ = some (.int .i64 b.c) ∧ W'.cell? ⟨w.heap.size, 3, none⟩ = some (.int .i64 b.d) ∧ W'.cell? ⟨w.heap.size, 4, none⟩ = some (.int .i64 b.e) ∧ W'.cell? ⟨w.heap.size, 5, none⟩ = some (.int .i64 b.f) := by
  have C := E.cells
  simp [BC, CF] at C
  simp [C, E]
def row2 (p : S2) (Y Z : List S2) : List Bx := Y.flatMap fun q => Z.map fun r => pbox p q r
theorem prt_row (X Y Z : List S2) : prt X Y Z = X.flatMap fun p => row2 p Y Z := rfl
theorem prt_take (X Y Z : List S2) {i : Nat} (h : i < X.length) : prt (X.take (i + 1)) Y Z = prt (X.take i) Y Z ++ row2 X[i] Y Z := by
  rw [prt_row, prt_row, List.take_succ_eq_append_getElem h, List.flatMap_append]
  simp
theorem row2_take (p : S2) (Y Z : List S2) {i : Nat} (h : i < Y.length) : row2 p (Y.take (i + 1)) Z = row2 p (Y.take i) Z ++ Z.map fun r => pbox p Y[i] r := by
  unfold row2
  rw [List.take_succ_eq_append_getElem h, List.flatMap_append]
  simp
theorem row2_len (p : S2) (Y Z : List S2) : (row2 p Y Z).length = Y.length * Z.length := by
  unfold row2
  induction Y with
  | nil => simp
  | cons q Y ih => rw [List.flatMap_cons, List.length_append, ih, List.length_map, List.length_cons, Nat.succ_mul]; omega
theorem prt_len (X Y Z : List S2) : (prt X Y Z).length = X.length * (Y.length * Z.length) := by
  rw [prt_row]
  induction X with
  | nil => simp
  | cons q Y ih => rw [List.flatMap_cons, List.length_append, ih, row2_len, List.length_cons, Nat.succ_mul]; omega
theorem prt_bound {X Y Z : List S2} (hx : X.length ≤ 18) (hy : Y.length ≤ 18) (hz : Z.length ≤ 18) (i k m : Nat) (p q : S2) : (prt (X.take i) Y Z ++ row2 p (Y.take k) Z ++ (Z.take m).map fun r => pbox p q r).length ≤ 6174 := by
  have h1 : (X.take i).length ≤ 18 := by rw [List.length_take]; omega
  have h2 : (Y.take k).length ≤ 18 := by rw [List.length_take]; omega
  have h3 : (Z.take m).length ≤ 18 := by rw [List.length_take]; omega
  have h4 := Nat.mul_le_mul hy hz
  have h5 := Nat.mul_le_mul h1 h4
  have h6 := Nat.mul_le_mul h2 hz
  rw [List.length_append, List.length_append, prt_len, row2_len, List.length_map]
  omega
theorem refX_ne (lo hi : Int) (os : List S2) : refX lo hi os ≠ [] := by
  by_cases h : lo = hi
  · unfold refX; rw [if_pos h]; simp
  · have := refX_len os h
    intro e; rw [e] at this; simp at this
theorem refX_small (lo hi : Int) (os : List S2) (h : os.length ≤ 8) : (prX (refX lo hi os)).length ≤ 18 := by
  rw [prX_cut]
  have := cutS_len lo hi os
  omega
theorem own_cons {B : Nat} {w : World} {v : Value} {O : List Bx} {y : Bx} (h : w.ownsRow B 30 6 v (O.length + 1) (O.flatMap cb ++ cb y)) : Own cb 30 6 B w v (O ++ [y]) := by
  unfold Own
  rw [List.length_append, List.flatMap_append]
  simpa using h
set_option maxHeartbeats 64000000 in
set_option maxRecDepth 100000 in
theorem parts_core (p : Option Addr) (l : List Bx) (cap : Nat) (b : Bx) (w : World) (hS : Sl w p l) (X Y Z : List Int) (hX : X ≠ []) (hY : Y ≠ []) (hZ : Z ≠ []) (nX : (prX X).length ≤ 18) (nY : (prX Y).length ≤ 18) (nZ : (prX Z).length ≤ 18)
    (cx : ∀ W, Sl W p l → Calls Try.prog 81 #[.slice p l.length cap, b.val, .int .i64 0] W fun e w' => ∃ v, e = .returned v ∧ OwnZ W.heap.size w' v X ∧ Below W.heap.size W w')
    (cy : ∀ W, Sl W p l → Calls Try.prog 81 #[.slice p l.length cap, b.val, .int .i64 1] W fun e w' => ∃ v, e = .returned v ∧ OwnZ W.heap.size w' v Y ∧ Below W.heap.size W w')
    (cz : ∀ W, Sl W p l → Calls Try.prog 81 #[.slice p l.length cap, b.val, .int .i64 2] W fun e w' => ∃ v, e = .returned v ∧ OwnZ W.heap.size w' v Z ∧ Below W.heap.size W w') :
    Calls Try.prog 58 #[.slice p l.length cap, b.val] w fun e w' => ∃ v, e = .returned v ∧ Own cb 30 6 w.heap.size w' v (prt (prX X) (prX Y) (prX Z)) ∧ Below w.heap.size w w' := by
  obtain ⟨i0, hinf, hz0, hz1, hz2⟩ := info_parts info25
  have E := (Env.nil w).add w.heap.size 30 #[.int .i64 b.a, .int .i64 b.b, .int .i64 b.c, .int .i64 b.d, .int .i64 b.e, .int .i64 b.f] rfl
  have C := E.cells
  simp [BC, CF] at C
  unfold Bx.val at *
  go_enter Try.func58, Try.ntmps58
  go_wp2_with fail
  refine wp_region_plan 9 [(0, true), (1, true), (3, true), (4, true), (6, true), (7, true), (2, false), (5, false), (8, false)] (fun W' => Env w W' [⟨w.heap.size, 30, #[.int .i64 b.a, .int .i64 b.b, .int .i64 b.c, .int .i64 b.d, .int .i64 b.e, .int .i64 b.f]⟩] ∧ W'.cell? ⟨w.heap.size, 0, none⟩ = some (.int .i64 b.a) ∧ W'.cell? ⟨w.heap.size, 1, none⟩ = some (.int .i64 b.b) ∧ W'.cell? ⟨w.heap.size, 2, none⟩ = some (.int .i64 b.c) ∧ W'.cell? ⟨w.heap.size, 3, none⟩ = some (.int .i64 b.d) ∧ W'.cell? ⟨w.heap.size, 4, none⟩ = some (.int .i64 b.e) ∧ W'.cell? ⟨w.heap.size, 5, none⟩ = some (.int .i64 b.f)) (by kernel_rfl) (by kernel_rfl) (fun _ _ d _ _ h => by cases d <;> exact h) (s_b E.drw) ?_
  simp only [List.filterMap_cons, List.filterMap_nil, List.getElem?_cons_zero, List.getElem?_cons_succ, Option.map_some, List.drop_succ_cons, List.drop_zero]
  replace E := E.drw
  iterate 6 (refine wpPlan_still (v := ?_) (Or.inl ⟨by rfl, ?_⟩) ?_; rotate_left; (focus (intro W hW; (try dsimp only at hW); go_split_ands; go_simp; try with_reducible rfl)); try simp only [Act.put, List.setIfInBounds_toArray, List.set_cons_zero, List.set_cons_succ])
  refine wpPlan_only (fun K hK => ?_)
  try go_simp
  (go_at_call 81; (with_reducible refine (cx _ (hS.on (envb E))).mono ?_); rintro X1 w1 ⟨vx, rfl, ox, hb⟩; replace E := E.on hb; clear hb)
  try go_wp2_with fail
  refine hK.out _ _ (s_b E) ?_
  clear hK K
  try simp only [Act.put, List.setIfInBounds_toArray, List.set_cons_zero, List.set_cons_succ]
  refine wpPlan_only (fun K hK => ?_)
  try go_simp
  (go_at_call 81; (with_reducible refine (cy _ (hS.on (envb E))).mono ?_); rintro X1 w2 ⟨vy, rfl, oy, hb⟩; replace E := E.on hb; replace ox := own_on ox hb; clear hb)
  try go_wp2_with fail
  refine hK.out _ _ (s_b E) ?_
  clear hK K
  try simp only [Act.put, List.setIfInBounds_toArray, List.set_cons_zero, List.set_cons_succ]
  refine wpPlan_only (fun K hK => ?_)
  try go_simp
  (go_at_call 81; (with_reducible refine (cz _ (hS.on (envb E))).mono ?_); rintro X1 w3 ⟨vz, rfl, oz, hb⟩; replace E := E.on hb; replace ox := own_on ox hb; replace oy := own_on oy hb; clear hb)
  try go_wp2_with fail
  refine hK.out _ _ (s_b E) ?_
  clear hK K
  try simp only [Act.put, List.setIfInBounds_toArray, List.set_cons_zero, List.set_cons_succ]
  refine wpPlan_end ?_
  go_wp2_with fail
  obtain ⟨qx, cpx, rfl, hCx⟩ := (Own.rd zl (ownz.2 ox)).z
  obtain ⟨qy, cpy, rfl, hCy⟩ := (Own.rd zl (ownz.2 oy)).z
  obtain ⟨qz, cpz, rfl, hCz⟩ := (Own.rd zl (ownz.2 oz)).z
  have lX := prX_len X
  have lY := prX_len Y
  have lZ := prX_len Z
  have pX := List.length_pos_iff.2 hX
  have pY := List.length_pos_iff.2 hY
  have pZ := List.length_pos_iff.2 hZ
  obtain ⟨gx, rfl, -⟩ := hCx 0 pX
  obtain ⟨gy, rfl, -⟩ := hCy 0 pY
  obtain ⟨gz, rfl, -⟩ := hCz 0 pZ
  have rX : ∀ (j : Nat) (h : j < X.length), w3.cell? ⟨gx, j, none⟩ = some (.int .i64 X[j]) := fun j h => by obtain ⟨g, e, hc⟩ := hCx j h; cases e; exact hc
  have rY : ∀ (j : Nat) (h : j < Y.length), w3.cell? ⟨gy, j, none⟩ = some (.int .i64 Y[j]) := fun j h => by obtain ⟨g, e, hc⟩ := hCy j h; cases e; exact hc
  have rZ : ∀ (j : Nat) (h : j < Z.length), w3.cell? ⟨gz, j, none⟩ = some (.int .i64 Z[j]) := fun j h => by obtain ⟨g, e, hc⟩ := hCz j h; cases e; exact hc
  have HBw := envb E
  clear hCx hCy hCz ox oy oz C cx cy cz hS
  have WX : IntKind.i64.wrap ((X.length : Int) - 1) = ((X.length - 1 : Nat) : Int) := by rw [IntWalk.i64_in _ (by omega)]; omega
  have WY : IntKind.i64.wrap ((Y.length : Int) - 1) = ((Y.length - 1 : Nat) : Int) := by rw [IntWalk.i64_in _ (by omega)]; omega
  have WZ : IntKind.i64.wrap ((Z.length : Int) - 1) = ((Z.length - 1 : Nat) : Int) := by rw [IntWalk.i64_in _ (by omega)]; omega
  go_loopw [8, 9] (fun v8 v9 wr => ∃ i : Nat, v9 = .int .i64 i ∧ i ≤ (prX X).length ∧ Own cb 30 6 w3.heap.size wr v8 (prt ((prX X).take i) (prX Y) (prX Z)) ∧ Below w3.heap.size w3 wr) (fun _ v _ => 18 - (intOf v).toNat)
  case atStart => exact ⟨0, rfl, Nat.zero_le _, ⟨by simp [prt], .inl ⟨rfl, by simp [prt]⟩⟩, Below.refl _ _⟩
  case round =>
    obtain ⟨i, rfl, hi, hO, hB⟩ := hrel
    go_upto_region 4 with fail
    go_cut [26] (fun s wx => s = .bool (decide (i < (prX X).length)) ∧ wx = wr)
    case first =>
      by_cases h1 : (1 : Int) < ((X.length - 1 : Nat) : Int)
      · go_wp2
        go_meet
        refine ⟨?_, rfl⟩
        simp only [Value.bool.injEq, decide_eq_decide]
        rw [lX]; omega
      · go_wp2
        go_meet
        refine ⟨?_, rfl⟩
        simp only [Value.bool.injEq, decide_eq_decide]
        rw [lX]; omega
    case rest =>
      obtain ⟨rfl, hw⟩ := hcut
      subst hw
      by_cases hi' : i < (prX X).length
      · rw [decide_eq_true hi']
        clear hi
        have HT := Lib.hid (prt_take (prX X) (prX Y) (prX Z) hi')
        go_wp2_with fail
        go_loopw [8, 10] (fun v8 v10 wr => ∃ k : Nat, v10 = .int .i64 k ∧ k ≤ (prX Y).length ∧ Own cb 30 6 w3.heap.size wr v8 (prt ((prX X).take i) (prX Y) (prX Z) ++ row2 (prX X)[i] ((prX Y).take k) (prX Z)) ∧ Below w3.heap.size w3 wr) (fun _ v _ => 18 - (intOf v).toNat)
        case atStart => exact ⟨0, rfl, Nat.zero_le _, by simpa [row2] using hO, hB⟩
        case round =>
          clear hO hB
          obtain ⟨k, rfl, hk, hO, hB⟩ := hrel
          go_upto_region 7 with fail
          go_cut [34] (fun s wx => s = .bool (decide (k < (prX Y).length)) ∧ wx = wr)
          case first =>
            by_cases h1 : (1 : Int) < ((Y.length - 1 : Nat) : Int)
            · go_wp2
              go_meet
              refine ⟨?_, rfl⟩
              simp only [Value.bool.injEq, decide_eq_decide]
              rw [lY]; omega
            · go_wp2
              go_meet
              refine ⟨?_, rfl⟩
              simp only [Value.bool.injEq, decide_eq_decide]
              rw [lY]; omega
          case rest =>
            obtain ⟨rfl, hw⟩ := hcut
            subst hw
            by_cases hk' : k < (prX Y).length
            · rw [decide_eq_true hk']
              clear hk
              have HR := Lib.hid (row2_take (prX X)[i] (prX Y) (prX Z) hk')
              go_wp2_with fail
              go_loopw [8, 11] (fun v8 v11 wr => ∃ m : Nat, v11 = .int .i64 m ∧ m ≤ (prX Z).length ∧ Own cb 30 6 w3.heap.size wr v8 (prt ((prX X).take i) (prX Y) (prX Z) ++ row2 (prX X)[i] ((prX Y).take k) (prX Z) ++ ((prX Z).take m).map fun r => pbox (prX X)[i] (prX Y)[k] r) ∧ Below w3.heap.size w3 wr) (fun _ v _ => 18 - (intOf v).toNat)
              case atStart => exact ⟨0, rfl, Nat.zero_le _, by simpa using hO, hB⟩
              case round =>
                clear hO hB
                obtain ⟨m, rfl, hm, hO, hB⟩ := hrel
                go_upto_region 10 with fail
                go_cut [42] (fun s wx => s = .bool (decide (m < (prX Z).length)) ∧ wx = wr)
                case first =>
                  by_cases h1 : (1 : Int) < ((Z.length - 1 : Nat) : Int)
                  · go_wp2
                    go_meet
                    refine ⟨?_, rfl⟩
                    simp only [Value.bool.injEq, decide_eq_decide]
                    rw [lZ]; omega
                  · go_wp2
                    go_meet
                    refine ⟨?_, rfl⟩
                    simp only [Value.bool.injEq, decide_eq_decide]
                    rw [lZ]; omega
                case rest =>
                  obtain ⟨rfl, hw⟩ := hcut
                  subst hw
                  by_cases hm' : m < (prX Z).length
                  · rw [decide_eq_true hm']
                    clear hm
                    have hB9 := below_dr hB
                    have hOl := prt_bound nX nY nZ i k m (prX X)[i] (prX Y)[k]
                    have HM : Hid (((prX Z).take (m + 1)).map (fun r => pbox (prX X)[i] (prX Y)[k] r) = ((prX Z).take m).map (fun r => pbox (prX X)[i] (prX Y)[k] r) ++ [pbox (prX X)[i] (prX Y)[k] (prX Z)[m]]) := Lib.hid (by rw [List.take_succ_eq_append_getElem hm', List.map_append]; rfl)
                    obtain ⟨ih1, ih2, ie⟩ := prX_at hi' hX
                    have dx := cell_later hB9 (rX i ih1)
                    have dx1 := cell_later hB9 (rX _ ih2)
                    have Hx := Lib.hid ie
                    have Wi : IntKind.i64.wrap ((i : Int) + 1) = (i : Int) + 1 := IntWalk.i64_in _ (by omega)
                    obtain ⟨i1, ei1⟩ : ∃ j, j = min (i + 1) (X.length - 1) := ⟨_, rfl⟩
                    have Mi : min ((i : Int) + 1) ((X.length - 1 : Nat) : Int) = (i1 : Int) := by omega
                    have si0 : (0 : Int) ≤ (i : Int) := by omega
                    have si1 : (i : Int) < (X.length : Int) := by omega
                    have si2 : (0 : Int) ≤ (i1 : Int) := by omega
                    have si3 : (i1 : Int) < (X.length : Int) := by omega
                    simp only [← ei1] at dx1 Hx
                    obtain ⟨xa, exa⟩ : ∃ z, Hid (X[i] = z) := ⟨_, Lib.hid rfl⟩
                    have ti3 : i1 < X.length := by omega
                    obtain ⟨xb, exb⟩ : ∃ z, Hid (X[i1]'ti3 = z) := ⟨_, Lib.hid rfl⟩
                    rw [exa.out] at dx
                    rw [exb.out] at dx1
                    have Kx : Hid ((prX X)[i] = (xa, xb)) := Lib.hid (by rw [Hx.out, exa.out, exb.out])
                    clear ie Hx ei1
                    obtain ⟨kh1, kh2, ke⟩ := prX_at hk' hY
                    have dy := cell_later hB9 (rY k kh1)
                    have dy1 := cell_later hB9 (rY _ kh2)
                    have Hy := Lib.hid ke
                    have Wk : IntKind.i64.wrap ((k : Int) + 1) = (k : Int) + 1 := IntWalk.i64_in _ (by omega)
                    obtain ⟨k1, ek1⟩ : ∃ j, j = min (k + 1) (Y.length - 1) := ⟨_, rfl⟩
                    have Mk : min ((k : Int) + 1) ((Y.length - 1 : Nat) : Int) = (k1 : Int) := by omega
                    have sk0 : (0 : Int) ≤ (k : Int) := by omega
                    have sk1 : (k : Int) < (Y.length : Int) := by omega
                    have sk2 : (0 : Int) ≤ (k1 : Int) := by omega
                    have sk3 : (k1 : Int) < (Y.length : Int) := by omega
                    simp only [← ek1] at dy1 Hy
                    obtain ⟨ya, eya⟩ : ∃ z, Hid (Y[k] = z) := ⟨_, Lib.hid rfl⟩
                    have tk3 : k1 < Y.length := by omega
                    obtain ⟨yb, eyb⟩ : ∃ z, Hid (Y[k1]'tk3 = z) := ⟨_, Lib.hid rfl⟩
                    rw [eya.out] at dy
                    rw [eyb.out] at dy1
                    have Ky : Hid ((prX Y)[k] = (ya, yb)) := Lib.hid (by rw [Hy.out, eya.out, eyb.out])
                    clear ke Hy ek1
                    obtain ⟨mh1, mh2, me⟩ := prX_at hm' hZ
                    have dz := cell_later hB9 (rZ m mh1)
                    have dz1 := cell_later hB9 (rZ _ mh2)
                    have Hz := Lib.hid me
                    have Wm : IntKind.i64.wrap ((m : Int) + 1) = (m : Int) + 1 := IntWalk.i64_in _ (by omega)
                    obtain ⟨m1, em1⟩ : ∃ j, j = min (m + 1) (Z.length - 1) := ⟨_, rfl⟩
                    have Mm : min ((m : Int) + 1) ((Z.length - 1 : Nat) : Int) = (m1 : Int) := by omega
                    have sm0 : (0 : Int) ≤ (m : Int) := by omega
                    have sm1 : (m : Int) < (Z.length : Int) := by omega
                    have sm2 : (0 : Int) ≤ (m1 : Int) := by omega
                    have sm3 : (m1 : Int) < (Z.length : Int) := by omega
                    simp only [← em1] at dz1 Hz
                    obtain ⟨za, eza⟩ : ∃ z, Hid (Z[m] = z) := ⟨_, Lib.hid rfl⟩
                    have tm3 : m1 < Z.length := by omega
                    obtain ⟨zb, ezb⟩ : ∃ z, Hid (Z[m1]'tm3 = z) := ⟨_, Lib.hid rfl⟩
                    rw [eza.out] at dz
                    rw [ezb.out] at dz1
                    have Kz : Hid ((prX Z)[m] = (za, zb)) := Lib.hid (by rw [Hz.out, eza.out, ezb.out])
                    clear me Hz em1
                    have HP : Hid (pbox (prX X)[i] (prX Y)[k] (prX Z)[m] = ⟨xa, ya, za, xb, yb, zb⟩) := Lib.hid (by rw [Kx.out, Ky.out, Kz.out]; rfl)
                    have HEND : Hid (∀ V U, Own cb 30 6 w3.heap.size U V ((prt ((prX X).take i) (prX Y) (prX Z) ++ row2 (prX X)[i] ((prX Y).take k) (prX Z) ++ ((prX Z).take m).map fun r => pbox (prX X)[i] (prX Y)[k] r) ++ [⟨xa, ya, za, xb, yb, zb⟩]) → Own cb 30 6 w3.heap.size U V (prt ((prX X).take i) (prX Y) (prX Z) ++ row2 (prX X)[i] ((prX Y).take k) (prX Z) ++ ((prX Z).take (m + 1)).map fun r => pbox (prX X)[i] (prX Y)[k] r)) := Lib.hid (fun V U h => by rw [HM.out, HP.out, ← List.append_assoc]; exact h)
                    generalize (prt ((prX X).take i) (prX Y) (prX Z) ++ row2 (prX X)[i] ((prX Y).take k) (prX Z) ++ ((prX Z).take m).map fun r => pbox (prX X)[i] (prX Y)[k] r) = O at *
                    clear HM HP Kx Ky Kz
                    go_wp2_with fail
                    refine wp_region_plan 44 [(0, true), (1, true), (2, true), (3, true), (4, true), (5, true), (6, true), (7, true), (8, true), (9, true), (10, true), (11, true), (12, true), (13, true), (14, true), (15, true), (16, true), (17, true), (18, true), (19, true), (20, true), (21, true), (22, true), (23, true), (24, true), (25, true), (26, true), (27, true), (28, true), (29, true), (30, true), (31, true), (32, true), (33, true), (34, true), (35, true), (36, true), (37, true), (38, true), (39, true), (40, true), (41, true), (42, true), (43, false)] (fun W' => W'.cell? ⟨gx, i, none⟩ = some (.int .i64 xa) ∧ W'.cell? ⟨gx, i1, none⟩ = some (.int .i64 xb) ∧ W'.cell? ⟨gy, k, none⟩ = some (.int .i64 ya) ∧ W'.cell? ⟨gy, k1, none⟩ = some (.int .i64 yb) ∧ W'.cell? ⟨gz, m, none⟩ = some (.int .i64 za) ∧ W'.cell? ⟨gz, m1, none⟩ = some (.int .i64 zb)) (by kernel_rfl) (by kernel_rfl) (fun _ _ d _ _ h => by cases d <;> exact h) ⟨dx, dx1, dy, dy1, dz, dz1⟩ ?_
                    simp only [List.filterMap_cons, List.filterMap_nil, List.getElem?_cons_zero, List.getElem?_cons_succ, Option.map_some, List.drop_succ_cons, List.drop_zero]
                    iterate 43 (refine wpPlan_still (v := ?_) (Or.inl ⟨by rfl, ?_⟩) ?_; rotate_left; (focus (intro W hW; (try dsimp only at hW); go_split_ands; go_simp; try with_reducible rfl)); try simp only [Act.put, List.setIfInBounds_toArray, List.set_cons_zero, List.set_cons_succ])
                    refine wpPlan_only (fun K hK => ?_)
                    try go_simp
                    refine hK.out _ _ ⟨cell_later (al1 _ _) dx, cell_later (al1 _ _) dx1, cell_later (al1 _ _) dy, cell_later (al1 _ _) dy1, cell_later (al1 _ _) dz, cell_later (al1 _ _) dz1⟩ ?_
                    clear hK K
                    try simp only [Act.put, List.setIfInBounds_toArray, List.set_cons_zero, List.set_cons_succ]
                    refine wpPlan_end ?_
                    have hsz := hB.size
                    go_wp2_with (at_builtin; refine wpList_append_own_at _ rfl _ _ 22 rfl w3.heap.size 30 i0 _ 6 48 Try.underlying22 hinf hz0 hz1 hz2 rfl (by decide) _ O.length (O.flatMap cb) rfl (own_on hO (below_dr (al (Below.refl wc.heap.size wc) (.cells #[.int .i64 xa, .int .i64 ya, .int .i64 za, .int .i64 xb, .int .i64 yb, .int .i64 zb] 30)))) ⟨_, 0, none⟩ 1 1 [.int .i64 xa, .int .i64 ya, .int .i64 za, .int .i64 xb, .int .i64 yb, .int .i64 zb] rfl rfl (World.news_of_block (cs := #[.int .i64 xa, .int .i64 ya, .int .i64 za, .int .i64 xb, .int .i64 yb, .int .i64 zb]) (t := 30) (fr := (0, 0)) (heap_alloc_new wc _)) (by simp [Value.oneCell']) (by unfold maxLen; omega) (by omega) (by simp; omega) ?_)
                    intro v' w5 p1 p2 p3 p4
                    have ob := below_dr (al (Below.refl wc.heap.size wc) (.cells #[.int .i64 xa, .int .i64 ya, .int .i64 za, .int .i64 xb, .int .i64 yb, .int .i64 zb] 30))
                    have O5 := HEND.out _ _ (own_cons (y := ⟨xa, ya, za, xb, yb, zb⟩) p1)
                    have B5 : Below w3.heap.size w3 w5 := (hB.trans (ob.mono hsz)).grown p2 (by have := ob.size; omega) (fun j hj => (World.ownsRow.lt hO _ hj).1)
                    clear p1 p2 p3 p4 ob hO
                    go_wp2
                    go_roundw
                    · exact ⟨m + 1, rfl, hm', O5, B5⟩
                    · simp [intOf]; omega
                  · rw [decide_eq_false hm']
                    have e : (prX Z).take m = prX Z := List.take_of_length_le (by omega)
                    rw [e] at hO
                    go_wp2
                    refine ⟨⟨k + 1, rfl, hk', by rw [HR.out, ← List.append_assoc]; exact hO, hB⟩, by simp [intOf]; omega⟩
            · rw [decide_eq_false hk']
              have e : (prX Y).take k = prX Y := List.take_of_length_le (by omega)
              rw [e] at hO
              go_wp2
              refine ⟨⟨i + 1, rfl, hi', by rw [HT.out]; exact hO, hB⟩, by simp [intOf]; omega⟩
      · rw [decide_eq_false hi']
        have e : (prX X).take i = prX X := List.take_of_length_le (by omega)
        rw [e] at hO
        go_wp2
        go_ret
        exact ⟨_, rfl, Own.mono hO HBw.size, belows HBw hB⟩
end Go.Proofs.Ytkgaahmehmbfjaa
namespace Go.Proofs.Ytkgaahmehmbfjaa
open Go.ChangeShapes Go.WideShapes Go.ChangeAt Go.RowKit
set_option linter.unusedVariables false
set_option linter.unusedSimpArgs false

theorem parts_any (p : Option Addr) (l : List Bx) (cap : Nat) (b : Bx) (w : World) (hS : Sl w p l) (hl : l.length ≤ 8) (hb : b.ok = true) :
    Calls Try.prog 58 #[.slice p l.length cap, b.val] w fun e w' => ∃ v, e = .returned v ∧ Own cb 30 6 w.heap.size w' v (prt (cutS b.a b.d (sds l 0)) (cutS b.b b.e (sds l 1)) (cutS b.c b.f (sds l 2))) ∧ Below w.heap.size w w' := by
  have h := Bx.ok_i.1 hb
  have hs : ∀ i, (sds l i).length ≤ 8 := fun i => by simp [sds]; omega
  have c0 := fun W hW => rcuts_any 0 (fun p _ _ => p) (fun p q r W => rcoord0 p q r W) p l cap b W hW (by omega) (sds l 0) rfl b.a b.d rfl rfl (by omega) (by omega) (by omega)
  have c1 := fun W hW => rcuts_any 1 (fun _ q _ => q) (fun p q r W => rcoord1 p q r W) p l cap b W hW (by omega) (sds l 1) rfl b.b b.e rfl rfl (by omega) (by omega) (by omega)
  have c2 := fun W hW => rcuts_any 2 (fun _ _ r => r) (fun p q r W => rcoord2 p q r W) p l cap b W hW (by omega) (sds l 2) rfl b.c b.f rfl rfl (by omega) (by omega) (by omega)
  have k := parts_core p l cap b w hS _ _ _ (refX_ne _ _ _) (refX_ne _ _ _) (refX_ne _ _ _) (refX_small _ _ _ (hs 0)) (refX_small _ _ _ (hs 1)) (refX_small _ _ _ (hs 2)) c0 c1 c2
  rw [prX_cut, prX_cut, prX_cut] at k
  exact k
theorem cut_in {lo hi : Int} {os : List S2} (h : lo ≤ hi) {p : S2} (hp : p ∈ cutS lo hi os) : lo ≤ p.1 ∧ p.1 ≤ p.2 ∧ p.2 ≤ hi := by
  unfold cutS at hp
  split at hp
  · rename_i e; rw [List.mem_singleton.1 hp]; subst e; simp
  · obtain ⟨a1, a2⟩ := srt_asc (ends lo hi os)
    obtain ⟨⟨k1, k2⟩, k3, -⟩ := prs_apart _ a1 p hp
    have b1 := ends_b h ((a2 _).1 k1)
    have b2 := ends_b h ((a2 _).1 k2)
    omega
theorem prt_ok (l : List Bx) {b : Bx} (hb : b.ok = true) : ∀ x ∈ prt (cutS b.a b.d (sds l 0)) (cutS b.b b.e (sds l 1)) (cutS b.c b.f (sds l 2)), x.ok = true := by
  intro x hx
  have h := Bx.ok_i.1 hb
  simp only [prt, List.mem_flatMap, List.mem_map] at hx
  obtain ⟨p, hp, q, hq, r, hr, rfl⟩ := hx
  have k1 := cut_in (by omega) hp
  have k2 := cut_in (by omega) hq
  have k3 := cut_in (by omega) hr
  rw [Bx.ok_i]
  simp only [pbox]
  omega
theorem s_in {w W' : World} {b y : Bx} {A0 A1 A2 A3 A4 A5 : Addr} (E : Env w W' [⟨w.heap.size, 30, #[.int .i64 b.a, .int .i64 b.b, .int .i64 b.c, .int .i64 b.d, .int .i64 b.e, .int .i64 b.f]⟩]) (h0 : w.cell? A0 = some (.int .i64 y.a)) (h1 : w.cell? A1 = some (.int .i64 y.b)) (h2 : w.cell? A2 = some (.int .i64 y.c)) (h3 : w.cell? A3 = some (.int .i64 y.d)) (h4 : w.cell? A4 = some (.int .i64 y.e)) (h5 : w.cell? A5 = some (.int .i64 y.f)) :
    Env w W' [⟨w.heap.size, 30, #[.int .i64 b.a, .int .i64 b.b, .int .i64 b.c, .int .i64 b.d, .int .i64 b.e, .int .i64 b.f]⟩] ∧ W'.cell? ⟨w.heap.size, 0, none⟩ = some (.int .i64 b.a) ∧ W'.cell? ⟨w.heap.size, 1, none⟩ = some (.int .i64 b.b) ∧ W'.cell? ⟨w.heap.size, 2, none⟩ = some (.int .i64 b.c) ∧ W'.cell? ⟨w.heap.size, 3, none⟩ = some (.int .i64 b.d) ∧ W'.cell? ⟨w.heap.size, 4, none⟩ = some (.int .i64 b.e) ∧ W'.cell? ⟨w.heap.size, 5, none⟩ = some (.int .i64 b.f) ∧ W'.cell? A0 = some (.int .i64 y.a) ∧ W'.cell? A1 = some (.int .i64 y.b) ∧ W'.cell? A2 = some (.int .i64 y.c) ∧ W'.cell? A3 = some (.int .i64 y.d) ∧ W'.cell? A4 = some (.int .i64 y.e) ∧ W'.cell? A5 = some (.int .i64 y.f) := by
  have C := E.cells
  simp [BC, CF] at C
  have k0 := cell_later (envb E) h0
  have k1 := cell_later (envb E) h1
  have k2 := cell_later (envb E) h2
  have k3 := cell_later (envb E) h3
  have k4 := cell_later (envb E) h4
  have k5 := cell_later (envb E) h5
  simp [C, E, k0, k1, k2, k3, k4, k5]
set_option maxHeartbeats 16000000 in
set_option maxRecDepth 100000 in
theorem in_any (p : Option Addr) (l : List Bx) (cap : Nat) (b : Bx) (w : World) (hS : Sl w p l) (ha : l.all Bx.ok = true) (hb : b.ok = true) :
    Calls Try.prog 59 #[.slice p l.length cap, b.val] w fun e w' => e = .returned (.bool (inB l b)) ∧ Below w.heap.size w w' := by
  have hm := hS.2.2
  unfold maxLen at hm
  obtain ⟨RES, hRES⟩ : ∃ R, R = inB l b := ⟨_, rfl⟩
  rw [← hRES]
  have HR := Lib.hid hRES
  have HA := Lib.hid (List.all_eq_true.1 ha)
  clear hRES ha
  have E := (Env.nil w).add w.heap.size 30 #[.int .i64 b.a, .int .i64 b.b, .int .i64 b.c, .int .i64 b.d, .int .i64 b.e, .int .i64 b.f] rfl
  have h31 := fun (y : Bx) (hy : y.ok = true) W => rcon_any y b W hy hb
  unfold Bx.val at *
  have C := E.cells
  simp [BC, CF] at C
  go_enter Try.func59, Try.ntmps59
  go_wp2_with fail
  go_loopw [5] (fun v wr => ∃ k : Nat, v = .int .i64 k ∧ k ≤ l.length ∧ Hid (∀ y ∈ l.take k, conB y b = false) ∧ Env w wr [⟨w.heap.size, 30, #[.int .i64 b.a, .int .i64 b.b, .int .i64 b.c, .int .i64 b.d, .int .i64 b.e, .int .i64 b.f]⟩]) (fun v _ => l.length - (intOf v).toNat)
  case atStart => exact ⟨0, rfl, Nat.zero_le _, Lib.hid (by simp), E⟩
  case round =>
    clear E C
    obtain ⟨k, rfl, hk, hG, E⟩ := hrel
    by_cases hlt : k < l.length
    · have g1 : decide ((k : Int) < (l.length : Int)) = true := by simp [hlt]
      have W1 : IntKind.i64.wrap ((k : Int) + 1) = ((k + 1 : Nat) : Int) := by rw [IntWalk.i64_in _ (by omega)]; omega
      have q3 : (0 : Int) ≤ (k : Int) := by omega
      have q4 : (k : Int) < (l.length : Int) := by omega
      obtain ⟨a, rfl, e0, e1, e2, e3, e4, e5⟩ := hS.at hlt
      have h := h31 l[k] (HA.out _ (List.getElem_mem hlt))
      have HT : Hid (conB l[k] b = false → ∀ y ∈ l.take (k + 1), conB y b = false) := Lib.hid (fun hc y hy => by
        rw [List.take_succ_eq_append_getElem hlt] at hy
        rcases List.mem_append.1 hy with hy | hy
        · exact hG.out y hy
        · rw [List.mem_singleton.1 hy]; exact hc)
      have HY : Hid (conB l[k] b = true → inB l b = true) := Lib.hid (fun hc => List.any_eq_true.2 ⟨_, List.getElem_mem hlt, hc⟩)
      generalize l[k] = y at *
      cases hc : conB y b
      · rw [hc] at h
        go_wp2_with fail
        refine wp_region_plan 5 [(0, true), (1, true), (2, true), (3, true), (4, true)] (fun W' => Env w W' [⟨w.heap.size, 30, #[.int .i64 b.a, .int .i64 b.b, .int .i64 b.c, .int .i64 b.d, .int .i64 b.e, .int .i64 b.f]⟩] ∧ W'.cell? ⟨w.heap.size, 0, none⟩ = some (.int .i64 b.a) ∧ W'.cell? ⟨w.heap.size, 1, none⟩ = some (.int .i64 b.b) ∧ W'.cell? ⟨w.heap.size, 2, none⟩ = some (.int .i64 b.c) ∧ W'.cell? ⟨w.heap.size, 3, none⟩ = some (.int .i64 b.d) ∧ W'.cell? ⟨w.heap.size, 4, none⟩ = some (.int .i64 b.e) ∧ W'.cell? ⟨w.heap.size, 5, none⟩ = some (.int .i64 b.f) ∧ W'.cell? (a.add (k * 6)) = some (.int .i64 y.a) ∧ W'.cell? ⟨(a.add (k * 6)).block, (a.add (k * 6)).off + 1, none⟩ = some (.int .i64 y.b) ∧ W'.cell? ⟨(a.add (k * 6)).block, (a.add (k * 6)).off + 2, none⟩ = some (.int .i64 y.c) ∧ W'.cell? ⟨(a.add (k * 6)).block, (a.add (k * 6)).off + 3, none⟩ = some (.int .i64 y.d) ∧ W'.cell? ⟨(a.add (k * 6)).block, (a.add (k * 6)).off + 4, none⟩ = some (.int .i64 y.e) ∧ W'.cell? ⟨(a.add (k * 6)).block, (a.add (k * 6)).off + 5, none⟩ = some (.int .i64 y.f)) (by kernel_rfl) (by kernel_rfl) (fun _ _ d _ _ h => by cases d <;> exact h) (s_in E.drw e0 e1 e2 e3 e4 e5) ?_
        simp only [List.filterMap_cons, List.filterMap_nil, List.getElem?_cons_zero, List.getElem?_cons_succ, Option.map_some, List.drop_succ_cons, List.drop_zero]
        iterate 5 (refine wpPlan_still (v := ?_) (Or.inl ⟨by rfl, ?_⟩) ?_; rotate_left; (focus (intro W hW; (try dsimp only at hW); go_split_ands; go_simp; try with_reducible rfl)); try simp only [Act.put, List.setIfInBounds_toArray, List.set_cons_zero, List.set_cons_succ])
        refine wpPlan_end ?_
        replace E := E.drw
        go_wp2_with (go_at_call 82; (with_reducible refine (h _).mono ?_); rintro X w1 ⟨rfl, hb1⟩; replace E := E.on hb1; clear hb1)
        exact ⟨⟨k + 1, rfl, hlt, Lib.hid (HT.out hc), E⟩, by simp [intOf]; omega⟩
      · rw [hc] at h
        have e : RES = true := by rw [HR.out]; exact HY.out hc
        subst e
        go_wp2_with fail
        refine wp_region_plan 5 [(0, true), (1, true), (2, true), (3, true), (4, true)] (fun W' => Env w W' [⟨w.heap.size, 30, #[.int .i64 b.a, .int .i64 b.b, .int .i64 b.c, .int .i64 b.d, .int .i64 b.e, .int .i64 b.f]⟩] ∧ W'.cell? ⟨w.heap.size, 0, none⟩ = some (.int .i64 b.a) ∧ W'.cell? ⟨w.heap.size, 1, none⟩ = some (.int .i64 b.b) ∧ W'.cell? ⟨w.heap.size, 2, none⟩ = some (.int .i64 b.c) ∧ W'.cell? ⟨w.heap.size, 3, none⟩ = some (.int .i64 b.d) ∧ W'.cell? ⟨w.heap.size, 4, none⟩ = some (.int .i64 b.e) ∧ W'.cell? ⟨w.heap.size, 5, none⟩ = some (.int .i64 b.f) ∧ W'.cell? (a.add (k * 6)) = some (.int .i64 y.a) ∧ W'.cell? ⟨(a.add (k * 6)).block, (a.add (k * 6)).off + 1, none⟩ = some (.int .i64 y.b) ∧ W'.cell? ⟨(a.add (k * 6)).block, (a.add (k * 6)).off + 2, none⟩ = some (.int .i64 y.c) ∧ W'.cell? ⟨(a.add (k * 6)).block, (a.add (k * 6)).off + 3, none⟩ = some (.int .i64 y.d) ∧ W'.cell? ⟨(a.add (k * 6)).block, (a.add (k * 6)).off + 4, none⟩ = some (.int .i64 y.e) ∧ W'.cell? ⟨(a.add (k * 6)).block, (a.add (k * 6)).off + 5, none⟩ = some (.int .i64 y.f)) (by kernel_rfl) (by kernel_rfl) (fun _ _ d _ _ h => by cases d <;> exact h) (s_in E.drw e0 e1 e2 e3 e4 e5) ?_
        simp only [List.filterMap_cons, List.filterMap_nil, List.getElem?_cons_zero, List.getElem?_cons_succ, Option.map_some, List.drop_succ_cons, List.drop_zero]
        iterate 5 (refine wpPlan_still (v := ?_) (Or.inl ⟨by rfl, ?_⟩) ?_; rotate_left; (focus (intro W hW; (try dsimp only at hW); go_split_ands; go_simp; try with_reducible rfl)); try simp only [Act.put, List.setIfInBounds_toArray, List.set_cons_zero, List.set_cons_succ])
        refine wpPlan_end ?_
        replace E := E.drw
        go_wp2_with (go_at_call 82; (with_reducible refine (h _).mono ?_); rintro X w1 ⟨rfl, hb1⟩; replace E := E.on hb1; clear hb1)
        go_ret
        exact ⟨rfl, envb E⟩
    · have g1 : decide ((k : Int) < (l.length : Int)) = false := by simp; omega
      have hg := hG.out
      rw [List.take_of_length_le (by omega)] at hg
      have e : RES = false := by
        rw [HR.out]
        unfold inB
        rw [List.any_eq_false]
        exact fun y hy => by simp [hg y hy]
      subst e
      go_wp2
      go_ret
      exact ⟨rfl, envb E⟩
theorem own_slB {B : Nat} {w : World} {v : Value} {l : List Bx} (h : Own cb 30 6 B w v l) (hl : l.length ≤ 100000) : ∃ q c, v = .slice q l.length c ∧ Sl w q l := by
  obtain ⟨q, c, rfl, hC⟩ := Own.rd bl h
  refine ⟨q, c, rfl, ?_, ?_, by unfold maxLen; omega⟩
  · intro e
    rcases l with _ | ⟨x, l⟩
    · rfl
    · obtain ⟨g, e2, -⟩ := hC 0 (by simp); rw [e] at e2; cases e2
  · intro a e i hi
    obtain ⟨g, e2, hc⟩ := hC i hi
    rw [e] at e2
    cases e2
    have ad : (⟨g, 0, none⟩ : Addr).add (i * 6) = ⟨g, i * 6, none⟩ := by unfold Addr.add; split <;> simp_all
    rw [ad]
    exact ⟨hc 0 (by omega), hc 1 (by omega), hc 2 (by omega), hc 3 (by omega), hc 4 (by omega), hc 5 (by omega)⟩
set_option maxHeartbeats 16000000 in
set_option maxRecDepth 100000 in
theorem rcovers_any (p : Option Addr) (l : List Bx) (cap : Nat) (b : Bx) (w : World) (hS : Sl w p l) (hl : l.length ≤ 8) (ha : l.all Bx.ok = true) (hb : b.ok = true) :
    Calls Try.prog 55 #[.slice p l.length cap, b.val] w fun e w' => e = .returned (.bool (covB l b)) ∧ Below w.heap.size w w' := by
  obtain ⟨RES, hRES⟩ : ∃ R, R = covB l b := ⟨_, rfl⟩
  rw [← hRES]
  rw [cov_prt] at hRES
  have h57 := fun W hW => parts_any p l cap b W hW hl hb
  have hok := prt_ok l hb
  have hln : (prt (cutS b.a b.d (sds l 0)) (cutS b.b b.e (sds l 1)) (cutS b.c b.f (sds l 2))).length ≤ 6174 := by
    have hs : ∀ i, (sds l i).length ≤ 8 := fun i => by simp [sds]; omega
    have n0 := cutS_len b.a b.d (sds l 0)
    have n1 := cutS_len b.b b.e (sds l 1)
    have n2 := cutS_len b.c b.f (sds l 2)
    have m0 := hs 0
    have m1 := hs 1
    have m2 := hs 2
    rw [prt_len]
    have h4 := Nat.mul_le_mul (show (cutS b.b b.e (sds l 1)).length ≤ 18 by omega) (show (cutS b.c b.f (sds l 2)).length ≤ 18 by omega)
    have h5 := Nat.mul_le_mul (show (cutS b.a b.d (sds l 0)).length ≤ 18 by omega) h4
    omega
  generalize prt (cutS b.a b.d (sds l 0)) (cutS b.b b.e (sds l 1)) (cutS b.c b.f (sds l 2)) = O at *
  have HR := Lib.hid hRES
  have HK := Lib.hid hok
  clear hRES hok
  have E := (Env.nil w).add w.heap.size 30 #[.int .i64 b.a, .int .i64 b.b, .int .i64 b.c, .int .i64 b.d, .int .i64 b.e, .int .i64 b.f] rfl
  have h58 := fun (y : Bx) (hy : y.ok = true) W hW => in_any p l cap y W hW ha hy
  unfold Bx.val at *
  have C := E.cells
  simp [BC, CF] at C
  go_enter Try.func55, Try.ntmps55
  go_wp2_with (go_at_call 58; (with_reducible refine (h57 _ (hS.on (envb E))).mono ?_); rintro X w1 ⟨v, rfl, hO, hb1⟩; replace E := E.on hb1; clear hb1)
  obtain ⟨q, c, rfl, hSO⟩ := own_slB hO (by omega)
  have HSW := envb E
  clear E C hO h57
  go_loopw [6] (fun v wr => ∃ k : Nat, v = .int .i64 k ∧ k ≤ O.length ∧ Hid (∀ y ∈ O.take k, inB l y = true) ∧ Below w1.heap.size w1 wr) (fun v _ => O.length - (intOf v).toNat)
  case atStart => exact ⟨0, rfl, Nat.zero_le _, Lib.hid (by simp), Below.refl _ _⟩
  case round =>
    obtain ⟨k, rfl, hk, hG, hB⟩ := hrel
    by_cases hlt : k < O.length
    · have g1 : decide ((k : Int) < (O.length : Int)) = true := by simp [hlt]
      have W1 : IntKind.i64.wrap ((k : Int) + 1) = ((k + 1 : Nat) : Int) := by rw [IntWalk.i64_in _ (by omega)]; omega
      have q3 : (0 : Int) ≤ (k : Int) := by omega
      have q4 : (k : Int) < (O.length : Int) := by omega
      obtain ⟨a, rfl, e0, e1, e2, e3, e4, e5⟩ := (hSO.on hB).at hlt
      have h := h58 O[k] (HK.out _ (List.getElem_mem hlt))
      have HT : Hid (inB l O[k] = true → ∀ y ∈ O.take (k + 1), inB l y = true) := Lib.hid (fun hc y hy => by
        rw [List.take_succ_eq_append_getElem hlt] at hy
        rcases List.mem_append.1 hy with hy | hy
        · exact hG.out y hy
        · rw [List.mem_singleton.1 hy]; exact hc)
      have HN : Hid (inB l O[k] = false → O.all (inB l) = false) := Lib.hid (fun hc => List.all_eq_false.2 ⟨_, List.getElem_mem hlt, by simp [hc]⟩)
      have hSl := hS.on (belows HSW hB)
      generalize O[k] = y at *
      cases hc : inB l y
      · rw [hc] at h
        have e : RES = false := by rw [HR.out]; exact HN.out hc
        subst e
        go_wp2_with (go_at_call 59; (with_reducible refine (h _ hSl).mono ?_); rintro X w2 ⟨rfl, hb1⟩)
        go_ret
        exact ⟨rfl, belows (belows HSW hB) hb1⟩
      · rw [hc] at h
        go_wp2_with (go_at_call 59; (with_reducible refine (h _ hSl).mono ?_); rintro X w2 ⟨rfl, hb1⟩)
        exact ⟨⟨k + 1, rfl, hlt, Lib.hid (HT.out hc), belows hB hb1⟩, by simp [intOf]; omega⟩
    · have g1 : decide ((k : Int) < (O.length : Int)) = false := by simp; omega
      have hg := hG.out
      rw [List.take_of_length_le (by omega)] at hg
      have e : RES = true := by rw [HR.out]; exact List.all_eq_true.2 hg
      subst e
      go_wp2
      go_ret
      exact ⟨rfl, belows HSW hB⟩
end Go.Proofs.Ytkgaahmehmbfjaa
