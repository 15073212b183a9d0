/- Below. -/
import Derived.Test.YtbohcedclnbcdaaV7
import Derived.Deep.RegionLaw
import Derived.Deep.DeepCutAuto
import Derived.StillTailTactics
namespace Go.Proofs.Ytbohcedclnbcdaa
open Go.ChangeShapes Go.WideShapes Go.ChangeAt Go.RowKit Go.Shelf
attribute [local go_sem] Oper.semAt_some
set_option linter.unusedVariables false
set_option linter.unusedSimpArgs false

theorem wp_normal {P : Program} {c : Code} {K : Act → World → Prop} {Q : Exit → Act → World → Prop} {a : Act} {w : World} (h : c.wp P (Exit.then K (fun _ _ _ => False)) a w) : c.wp P (Exit.then K Q) a w :=
  wp_mono h fun e a w hq => by cases e <;> first | exact hq | exact hq.elim
/-- Whether the first function is less at a place of a range, behind its start. -/
def isB (fr tz : Int) (e : Int × Int × Int) : Bool := decide (fr < e.1) && decide (e.1 ≤ tz) && decide (e.2.1 < e.2.2)
def bel (la lb : List Stp) (fr tz : Int) : Option Int := if va la fr < va lb fr then some fr else ((tog la lb).find? (isB fr tz)).map (·.1)
def belR (la lb : List Stp) (fr tz : Int) : Int × Int :=
  if (okS la && okS lb) = true then (if rng fr tz = true then (match bel la lb fr tz with | some x => (x, 0) | none => (0, 12)) else (0, 2)) else (0, 1)
/-- The cells of Below. -/
structure Eb (w : World) (n0 : Nat) (pa pb : Option Addr) (la lb : List Stp) (fr tz : Int) (V : World) : Prop where
  h6 : Has V n0 3 #[.int .i64 fr]
  h7 : Has V (n0 + 1) 3 #[.int .i64 tz]
  h8 : Has V (n0 + 1 + 1) 3 #[.int .i64 0]
  h9 : Has V (n0 + 1 + 1 + 1) 25 #[.int .i64 0]
  ha : Sl V pa la
  hb : Sl V pb lb
  bl : Below n0 w V
theorem Eb.on {w : World} {n0 : Nat} {pa pb : Option Addr} {la lb : List Stp} {fr tz : Int} {V V' : World} (E : Eb w n0 pa pb la lb fr tz V) (hb : Below V.heap.size V V') (hn : n0 ≤ w.heap.size) : Eb w n0 pa pb la lb fr tz V' :=
  ⟨E.h6.on hb, E.h7.on hb, E.h8.on hb, E.h9.on hb, E.ha.on hb, E.hb.on hb, E.bl.trans (hb.mono (Nat.le_trans hn E.bl.size))⟩
theorem Eb.drw {w : World} {n0 : Nat} {pa pb : Option Addr} {la lb : List Stp} {fr tz : Int} {V : World} (E : Eb w n0 pa pb la lb fr tz V) : Eb w n0 pa pb la lb fr tz V.drew := ⟨E.h6, E.h7, E.h8, E.h9, E.ha, E.hb, Below.drew E.bl⟩
theorem Eb.reads {w : World} {n0 : Nat} {pa pb : Option Addr} {la lb : List Stp} {fr tz : Int} {V : World} (E : Eb w n0 pa pb la lb fr tz V) :
    V.cell? ⟨n0, 0, none⟩ = some (.int .i64 fr) ∧ V.cell? ⟨n0 + 1, 0, none⟩ = some (.int .i64 tz) ∧ V.cell? ⟨n0 + 1 + 1, 0, none⟩ = some (.int .i64 0) ∧ V.cell? ⟨n0 + 1 + 1 + 1, 0, none⟩ = some (.int .i64 0) ∧
      V.frozen? ⟨n0 + 1 + 1, 0, none⟩ = false ∧ V.frozen? ⟨n0 + 1 + 1 + 1, 0, none⟩ = false ∧ ∀ u, (V.setCell ⟨n0 + 1 + 1, 0, none⟩ u).cell? ⟨n0 + 1 + 1 + 1, 0, none⟩ = some (.int .i64 0) :=
  ⟨E.h6.read 0, E.h7.read 0, E.h8.read 0, E.h9.read 0, E.h8.open_ 0, E.h9.open_ 0, fun u => (E.h9.apart_ (p := ⟨n0 + 1 + 1, 0, none⟩) (by show n0 + 1 + 1 + 1 ≠ n0 + 1 + 1; omega) u).read 0⟩
theorem Eb.two {w : World} {n0 : Nat} {pa pb : Option Addr} {la lb : List Stp} {fr tz : Int} {V : World} (E : Eb w n0 pa pb la lb fr tz V) (x c : Int) :
    ((V.setCell ⟨n0 + 1 + 1, 0, none⟩ (.int .i64 x)).setCell ⟨n0 + 1 + 1 + 1, 0, none⟩ (.int .i64 c)).cell? ⟨n0 + 1 + 1, 0, none⟩ = some (.int .i64 x) ∧
    ((V.setCell ⟨n0 + 1 + 1, 0, none⟩ (.int .i64 x)).setCell ⟨n0 + 1 + 1 + 1, 0, none⟩ (.int .i64 c)).cell? ⟨n0 + 1 + 1 + 1, 0, none⟩ = some (.int .i64 c) ∧
    Below n0 w ((V.setCell ⟨n0 + 1 + 1, 0, none⟩ (.int .i64 x)).setCell ⟨n0 + 1 + 1 + 1, 0, none⟩ (.int .i64 c)) :=
  ⟨((E.h8.put_ 0 (.int .i64 x)).apart_ (p := ⟨n0 + 1 + 1 + 1, 0, none⟩) (by show n0 + 1 + 1 ≠ n0 + 1 + 1 + 1; omega) (.int .i64 c)).read 0,
   ((E.h9.apart_ (p := ⟨n0 + 1 + 1, 0, none⟩) (by show n0 + 1 + 1 + 1 ≠ n0 + 1 + 1; omega) (.int .i64 x)).put_ 0 (.int .i64 c)).read 0,
   (E.bl.setCell (p := ⟨n0 + 1 + 1, 0, none⟩) (by show n0 ≤ n0 + 1 + 1; omega) _).setCell (p := ⟨n0 + 1 + 1 + 1, 0, none⟩) (by show n0 ≤ n0 + 1 + 1 + 1; omega) _⟩
theorem Eb.start (w : World) (pa pb : Option Addr) (la lb : List Stp) (fr tz : Int) (hA : Sl w pa la) (hB : Sl w pb lb) :
    Eb w w.heap.size pa pb la lb fr tz ((((w.alloc (.cells #[.int .i64 fr] 3)).alloc (.cells #[.int .i64 tz] 3)).alloc (.cells #[.int .i64 0] 3)).alloc (.cells #[.int .i64 0] 25)) := by
  have B1 := al1 w (.cells #[.int .i64 fr] 3)
  have B2 := al B1 (.cells #[.int .i64 tz] 3)
  have B3 := al B2 (.cells #[.int .i64 0] 3)
  have B4 := al B3 (.cells #[.int .i64 0] 25)
  have H6 := Has.new_ w 3 #[.int .i64 fr]
  have H7 := Has.new_ (w.alloc (.cells #[.int .i64 fr] 3)) 3 #[.int .i64 tz]
  have H8 := Has.new_ ((w.alloc (.cells #[.int .i64 fr] 3)).alloc (.cells #[.int .i64 tz] 3)) 3 #[.int .i64 0]
  have H9 := Has.new_ (((w.alloc (.cells #[.int .i64 fr] 3)).alloc (.cells #[.int .i64 tz] 3)).alloc (.cells #[.int .i64 0] 3)) 25 #[.int .i64 0]
  rw [World.size_alloc] at H7
  rw [World.size_alloc, World.size_alloc] at H8
  rw [World.size_alloc, World.size_alloc, World.size_alloc] at H9
  exact ⟨((H6.on (al1 _ _)).on (al1 _ _)).on (al1 _ _), (H7.on (al1 _ _)).on (al1 _ _), H8.on (al1 _ _), H9, hA.on B4, hB.on B4, B4⟩
theorem Eb.tog {w : World} {n0 : Nat} {pa pb : Option Addr} {la lb : List Stp} {fr tz : Int} {V : World} (E : Eb w n0 pa pb la lb fr tz V) (ca cb : Nat) (hn : n0 ≤ w.heap.size) :
    (fun V2 : World => Eb w n0 pa pb la lb fr tz V2 ∧ Has V2 V.heap.size 22 #[.slice pa la.length ca] ∧ Has V2 (V.heap.size + 1) 22 #[.slice pb lb.length cb] ∧ V2.heap.size = V.heap.size + 2)
      ((V.alloc (.cells #[.slice pa la.length ca] 22)).alloc (.cells #[.slice pb lb.length cb] 22)) := by
  have H1 := Has.new_ V 22 #[.slice pa la.length ca]
  have H2 := Has.new_ (V.alloc (.cells #[.slice pa la.length ca] 22)) 22 #[.slice pb lb.length cb]
  rw [World.size_alloc] at H2
  exact ⟨(E.on (al1 _ _) hn).on (al1 _ _) hn, H1.on (al1 _ _), H2, by simp⟩
set_option maxHeartbeats 1000000 in
set_option maxRecDepth 100000 in
theorem below_bad (pa pb : Option Addr) (la lb : List Stp) (ca cb : Nat) (fr tz : Int) (w : World) (hA : Sl w pa la) (hB : Sl w pb lb) (hn : (okS la && okS lb) = false) :
    Calls Try.prog 24 #[.slice pa la.length ca, .slice pb lb.length cb, .int .i64 fr, .int .i64 tz] w fun e w' => e = .returned (.tuple #[.int .i64 0, .int .i64 1]) ∧ Below w.heap.size w w' := by
  have va1 := fun W h => valid_any pa la ca W h
  have vb1 := fun W h => valid_any pb lb cb W h
  have E := Eb.start w pa pb la lb fr tz hA hB
  obtain ⟨r6, r7, r8, r9, f8, f9, r89⟩ := E.reads
  cases hO : okS la
  · rw [hO] at va1
    clear hn hO vb1 hA hB
    go_enter Try.func24, Try.ntmps24
    go_wp2_with (go_at_call 16; (with_reducible refine (va1 _ E.ha).mono ?_); rintro e w1 ⟨rfl, hb⟩; replace E := E.on hb (Nat.le_refl _); clear hb r6 r7 r8 r9 f8 f9 r89; obtain ⟨r6, r7, r8, r9, f8, f9, r89⟩ := E.reads; clear va1)
    obtain ⟨x8, x9, hb2⟩ := E.two 0 1
    exact bodyPost_ret (v := .tuple #[.int .i64 0, .int .i64 1]) (by simp [results, Try.results24, go_sem, x8, x9]) rfl ⟨rfl, hb2⟩
  · have hO2 : okS lb = false := by rw [hO] at hn; simpa using hn
    rw [hO] at va1
    rw [hO2] at vb1
    clear hn hO hO2 hA hB
    go_enter Try.func24, Try.ntmps24
    go_wp2_with (first
      | (go_at_call 16; (with_reducible refine (va1 _ E.ha).mono ?_); rintro e w1 ⟨rfl, hb⟩; replace E := E.on hb (Nat.le_refl _); clear hb r6 r7 r8 r9 f8 f9 r89; obtain ⟨r6, r7, r8, r9, f8, f9, r89⟩ := E.reads; clear va1)
      | (go_at_call 16; (with_reducible refine (vb1 _ E.hb).mono ?_); rintro e w2 ⟨rfl, hb⟩; replace E := E.on hb (Nat.le_refl _); clear hb r6 r7 r8 r9 f8 f9 r89; obtain ⟨r6, r7, r8, r9, f8, f9, r89⟩ := E.reads; clear vb1))
    obtain ⟨x8, x9, hb2⟩ := E.two 0 1
    exact bodyPost_ret (v := .tuple #[.int .i64 0, .int .i64 1]) (by simp [results, Try.results24, go_sem, x8, x9]) rfl ⟨rfl, hb2⟩
set_option maxHeartbeats 1000000 in
set_option maxRecDepth 100000 in
theorem below_rng (pa pb : Option Addr) (la lb : List Stp) (ca cb : Nat) (fr tz : Int) (w : World) (hA : Sl w pa la) (hB : Sl w pb lb) (oa : okS la = true) (ob : okS lb = true) (hR : rng fr tz = false) :
    Calls Try.prog 24 #[.slice pa la.length ca, .slice pb lb.length cb, .int .i64 fr, .int .i64 tz] w fun e w' => e = .returned (.tuple #[.int .i64 0, .int .i64 2]) ∧ Below w.heap.size w w' := by
  have va1 := fun W h => valid_any pa la ca W h
  have vb1 := fun W h => valid_any pb lb cb W h
  have E := Eb.start w pa pb la lb fr tz hA hB
  obtain ⟨r6, r7, r8, r9, f8, f9, r89⟩ := E.reads
  have hr1 := fun W => range_any fr tz W
  rw [oa] at va1
  rw [ob] at vb1
  rw [hR] at hr1
  clear oa ob hR hA hB
  · go_enter Try.func24, Try.ntmps24
    go_wp2_with (first
      | (go_at_call 16; (with_reducible refine (va1 _ E.ha).mono ?_); rintro e w1 ⟨rfl, hb⟩; replace E := E.on hb (Nat.le_refl _); clear hb r6 r7 r8 r9 f8 f9 r89; obtain ⟨r6, r7, r8, r9, f8, f9, r89⟩ := E.reads; clear va1)
      | (go_at_call 16; (with_reducible refine (vb1 _ E.hb).mono ?_); rintro e w2 ⟨rfl, hb⟩; replace E := E.on hb (Nat.le_refl _); clear hb r6 r7 r8 r9 f8 f9 r89; obtain ⟨r6, r7, r8, r9, f8, f9, r89⟩ := E.reads; clear vb1)
      | (go_at_call 49; (with_reducible refine (hr1 _).mono ?_); rintro e w3 ⟨rfl, rfl⟩; clear hr1))
    obtain ⟨x8, x9, hb2⟩ := E.two 0 2
    exact bodyPost_ret (v := .tuple #[.int .i64 0, .int .i64 2]) (by simp [results, Try.results24, go_sem, x8, x9]) rfl ⟨rfl, hb2⟩
set_option maxHeartbeats 1000000 in
set_option maxRecDepth 100000 in
theorem below_lt (pa pb : Option Addr) (la lb : List Stp) (ca cb : Nat) (fr tz : Int) (w : World) (hA : Sl w pa la) (hB : Sl w pb lb) (oa : okS la = true) (ob : okS lb = true) (hR : rng fr tz = true) (hlt : va la fr < va lb fr) :
    Calls Try.prog 24 #[.slice pa la.length ca, .slice pb lb.length cb, .int .i64 fr, .int .i64 tz] w fun e w' => e = .returned (.tuple #[.int .i64 fr, .int .i64 0]) ∧ Below w.heap.size w w' := by
  have va1 := fun W h => valid_any pa la ca W h
  have vb1 := fun W h => valid_any pb lb cb W h
  have E := Eb.start w pa pb la lb fr tz hA hB
  obtain ⟨r6, r7, r8, r9, f8, f9, r89⟩ := E.reads
  have hr1 := fun W => range_any fr tz W
  have v1 := fun W h => value_any pa la ca fr W h (okS_to oa).asc
  have v2 := fun W h => value_any pb lb cb fr W h (okS_to ob).asc
  rw [oa] at va1
  rw [ob] at vb1
  rw [hR] at hr1
  have g0 : decide (va la fr < va lb fr) = true := decide_eq_true hlt
  generalize va la fr = P0 at *
  generalize va lb fr = Q0 at *
  clear oa ob hR hA hB hlt
  go_enter Try.func24, Try.ntmps24
  go_wp2_with (first
    | (go_at_call 16; (with_reducible refine (va1 _ E.ha).mono ?_); rintro e w1 ⟨rfl, hb⟩; replace E := E.on hb (Nat.le_refl _); clear hb r6 r7 r8 r9 f8 f9 r89; obtain ⟨r6, r7, r8, r9, f8, f9, r89⟩ := E.reads; clear va1)
    | (go_at_call 16; (with_reducible refine (vb1 _ E.hb).mono ?_); rintro e w2 ⟨rfl, hb⟩; replace E := E.on hb (Nat.le_refl _); clear hb r6 r7 r8 r9 f8 f9 r89; obtain ⟨r6, r7, r8, r9, f8, f9, r89⟩ := E.reads; clear vb1)
    | (go_at_call 49; (with_reducible refine (hr1 _).mono ?_); rintro e w3 ⟨rfl, rfl⟩; clear hr1))
  go_region_law (go_simp; go_at_call 39; first | ((first | (with_reducible refine (v1 _ E.ha).mono ?_) | (with_reducible refine (v1 _ E.drw.ha).mono ?_)); rintro X wK ⟨rfl, hb⟩; (first | have E := E.on hb (Nat.le_refl _) | have E := E.drw.on hb (Nat.le_refl _)); clear hb; obtain ⟨r6, r7, r8, r9, f8, f9, r89⟩ := E.reads) | ((first | (with_reducible refine (v2 _ E.hb).mono ?_) | (with_reducible refine (v2 _ E.drw.hb).mono ?_)); rintro X wK ⟨rfl, hb⟩; (first | have E := E.on hb (Nat.le_refl _) | have E := E.drw.on hb (Nat.le_refl _)); clear hb; obtain ⟨r6, r7, r8, r9, f8, f9, r89⟩ := E.reads))
  all_goals (
    clear v1 v2
    go_wp2
    first
      | (obtain ⟨x8, x9, hb2⟩ := E.two fr 0
         exact bodyPost_ret (v := .tuple #[.int .i64 fr, .int .i64 0]) (by simp [results, Try.results24, go_sem, x8, x9]) rfl ⟨rfl, hb2⟩)
      | (obtain ⟨x8, x9, hb2⟩ := E.drw.two fr 0
         exact bodyPost_ret (v := .tuple #[.int .i64 fr, .int .i64 0]) (by simp [results, Try.results24, go_sem, x8, x9]) rfl ⟨rfl, hb2⟩))

/-- What the loop keeps. -/
structure Ie (w : World) (n0 : Nat) (fr tz : Int) (pre : List (Int × Int × Int)) (V : World) : Prop where
  h6 : Has V n0 3 #[.int .i64 fr]
  h7 : Has V (n0 + 1) 3 #[.int .i64 tz]
  h8 : Has V (n0 + 1 + 1) 3 #[.int .i64 0]
  h9 : Has V (n0 + 1 + 1 + 1) 25 #[.int .i64 0]
  bl : Below n0 w V
  no : pre.find? (isB fr tz) = none
structure Ixe (w : World) (n0 : Nat) (fr tz : Int) (pre : List (Int × Int × Int)) (V : World) : Prop where
  bl : Below n0 w V
  ex : ∃ x, Has V (n0 + 1 + 1) 3 #[.int .i64 x] ∧ (pre.find? (isB fr tz)).map (·.1) = some x
  h9 : Has V (n0 + 1 + 1 + 1) 25 #[.int .i64 0]
theorem Ie.abd {w : World} {n0 lo hi : Nat} {fr tz : Int} (h : n0 + 1 + 1 + 1 < lo) (hn2 : n0 ≤ w.heap.size) : Abd lo hi (Ie w n0 fr tz) := fun pre W W' C hc =>
  ⟨C.h6.chg hc (.inl (by omega)), C.h7.chg hc (.inl (by omega)), C.h8.chg hc (.inl (by omega)), C.h9.chg hc (.inl h), C.bl.trans (hc.below (by omega) (Nat.le_trans hn2 C.bl.size)), C.no⟩
theorem Ixe.abd {w : World} {n0 lo hi : Nat} {fr tz : Int} (h : n0 + 1 + 1 + 1 < lo) (hn2 : n0 ≤ w.heap.size) : Abd lo hi (Ixe w n0 fr tz) := fun pre W W' C hc => by
  obtain ⟨x, hx, hp⟩ := C.ex
  exact ⟨C.bl.trans (hc.below (by omega) (Nat.le_trans hn2 C.bl.size)), ⟨x, hx.chg hc (.inl (by omega)), hp⟩, C.h9.chg hc (.inl h)⟩
set_option maxHeartbeats 4000000 in
set_option maxRecDepth 100000 in
theorem below_ok (pa pb : Option Addr) (la lb : List Stp) (ca cb : Nat) (fr tz : Int) (w : World) (hA : Sl w pa la) (hB : Sl w pb lb) (oa : OkS la) (ob : OkS lb) (hR : rng fr tz = true) (hlt : ¬ va la fr < va lb fr) :
    Calls Try.prog 24 #[.slice pa la.length ca, .slice pb lb.length cb, .int .i64 fr, .int .i64 tz] w fun e w' => e = .returned (.tuple #[.int .i64 (belR la lb fr tz).1, .int .i64 (belR la lb fr tz).2]) ∧ Below w.heap.size w w' := by
  have va1 := fun W h => valid_any pa la ca W h
  have vb1 := fun W h => valid_any pb lb cb W h
  rw [okS_of oa] at va1
  rw [okS_of ob] at vb1
  have hr1 := fun W => range_any fr tz W
  rw [hR] at hr1
  have v1 := fun W h => value_any pa la ca fr W h oa.asc
  have v2 := fun W h => value_any pb lb cb fr W h ob.asc
  have E := Eb.start w pa pb la lb fr tz hA hB
  have hres : Hid (belR la lb fr tz = match ((tog la lb).find? (isB fr tz)).map (·.1) with | some x => (x, 0) | none => (0, 12)) := Lib.hid (by
    unfold belR bel
    rw [okS_of oa, okS_of ob, if_pos (by rfl : (true && true) = true), if_pos hR, if_neg hlt])
  have g0 : decide (va la fr < va lb fr) = false := decide_eq_false hlt
  generalize va la fr = P0 at *
  generalize va lb fr = Q0 at *
  have hla := hA.lt
  have hlb := hB.lt
  have hal := oa.len
  have hbl := ob.len
  clear hlt hR oa ob hA hB
  refine (callsIn_wide (n := 6)).1 ?_
  refine callsIn_of_wp_marks Try.func24 rfl trivial ?_ rfl
  simp only [Try.ntmps24, List.size_toArray, List.length_cons, List.length_nil, Nat.reduceAdd, Nat.reduceSub, Array.replicate_succ, Array.replicate_zero, List.push_toArray, List.append_toArray, List.nil_append, List.cons_append]
  refine wpIn_wide.2 ?_
  obtain ⟨r6, r7, r8, r9, f8, f9, -⟩ := E.reads
  go_wp2_with (first
    | (go_at_call 16; (with_reducible refine (va1 _ E.ha).mono ?_); rintro e w1 ⟨rfl, hb⟩; replace E := E.on hb (Nat.le_refl _); clear va1 hb r6 r7 r8 r9 f8 f9; obtain ⟨r6, r7, r8, r9, f8, f9, -⟩ := E.reads)
    | (go_at_call 16; (with_reducible refine (vb1 _ E.hb).mono ?_); rintro e w2 ⟨rfl, hb⟩; replace E := E.on hb (Nat.le_refl _); clear vb1 hb r6 r7 r8 r9 f8 f9; obtain ⟨r6, r7, r8, r9, f8, f9, -⟩ := E.reads)
    | (go_at_call 49; (with_reducible refine (hr1 _).mono ?_); rintro e w3 ⟨rfl, rfl⟩; clear hr1))
  refine wp_normal ?_
  go_region_law (go_simp; go_at_call 39; first | ((first | (with_reducible refine (v1 _ E.ha).mono ?_) | (with_reducible refine (v1 _ E.drw.ha).mono ?_)); rintro X wK ⟨rfl, hb⟩; (first | have E := E.on hb (Nat.le_refl _) | have E := E.drw.on hb (Nat.le_refl _)); clear hb; obtain ⟨r6, r7, r8, r9, f8, f9, -⟩ := E.reads) | ((first | (with_reducible refine (v2 _ E.hb).mono ?_) | (with_reducible refine (v2 _ E.drw.hb).mono ?_)); rintro X wK ⟨rfl, hb⟩; (first | have E := E.on hb (Nat.le_refl _) | have E := E.drw.on hb (Nat.le_refl _)); clear hb; obtain ⟨r6, r7, r8, r9, f8, f9, -⟩ := E.reads))
  all_goals (
    clear v1 v2
    go_wp2_with (go_at_call 50; (with_reducible refine (together_any pa pb la.length lb.length ca cb _).mono ?_); rintro e w3 ⟨rfl, hw3⟩; (first | (have T := E.tog ca cb (Nat.le_refl _); rw [← hw3] at T) | (have T := E.drw.tog ca cb (Nat.le_refl _); rw [← hw3] at T)); clear hw3)
    obtain ⟨E3, G1, G2, hz⟩ := T
    have HD := Lib.hid (Eb.bl E3)
    have hq := E.h9.size_
    generalize wK.heap.size = d1 at *
    have I0 : Ie w w.heap.size fr tz [] w3 := ⟨E3.h6, E3.h7, E3.h8, E3.h9, E3.bl, rfl⟩
    have l0 := E3.h9.size_
    obtain ⟨c1, c2⟩ := And.intro (G1.read 0) (G2.read 0)
    have l1 : w.heap.size + 1 + 1 + 1 < d1 := by omega
    have hz1 : d1 + 1 < w3.heap.size := by omega
    clear hz
    refine (wpIn_wide (n := 6)).1 ?_
    refine wpIn_range_own (by omega) (gf := 56) (lb := #[.pointer (some ⟨d1, 0, none⟩), .pointer (some ⟨d1 + 1, 0, none⟩)]) rfl (enters_of Try.func56 (by kernel_rfl) rfl) (encs := encs)
      (fun k => k < w.heap.size ∨ k = d1 ∨ k = d1 + 1) (tog la lb) (fun _ => rfl)
      (fun W hW hb => tog_yields _ pa pb la lb ca cb d1 (d1 + 1) _ W (cell_later hb c1) (cell_later hb c2) (E3.ha.on hb) (E3.hb.on hb) (.inr (.inl rfl)) (.inr (.inr rfl)) (fun a ha hn => .inl (hla a ha hn)) (fun a ha hn => .inl (hlb a ha hn)) (fun k hk => by rcases hk with h | h | h <;> omega) (by omega) (by omega))
      (Ie w w.heap.size fr tz) (Ixe w w.heap.size fr tz) (Ie.abd (by omega) (Nat.le_refl _)) (Ixe.abd (by omega) (Nat.le_refl _)) I0 ?round (fun k hk => by rcases hk with h | h | h <;> omega) ?done ?stop
    case round =>
      clear I0 G1 G2 c1 c2 E3 E
      rintro l pre ⟨f, p, q⟩ rest W hxs C hsz
      simp only [encs]
      clear hxs
      gi_wp2
      refine ⟨Kps.alloc _ _, fun w4 hc hz4 => ?_⟩
      have C1 := Ie.abd (lo := w3.heap.size) (hi := w3.heap.size + 5) (by omega) (Nat.le_refl _) _ _ _ C ((Chg.alloc W (.cells #[.int .i64 p, .int .i64 q] 72)).trans (hc.wide (by omega) (by omega)))
      have HV := (Has.new_ W 72 #[.int .i64 p, .int .i64 q]).chg hc (.inr (by omega))
      have HV0 : w4.cell? ⟨W.heap.size, 0, none⟩ = some (.int .i64 p) := HV.read 0
      have HV1 : w4.cell? ⟨W.heap.size, 1, none⟩ = some (.int .i64 q) := HV.read 1
      have R6 : w4.cell? ⟨w.heap.size, 0, none⟩ = some (.int .i64 fr) := C1.h6.read 0
      have R7 : w4.cell? ⟨w.heap.size + 1, 0, none⟩ = some (.int .i64 tz) := C1.h7.read 0
      have R8 : w4.cell? ⟨w.heap.size + 1 + 1, 0, none⟩ = some (.int .i64 0) := C1.h8.read 0
      have R9 : ∀ u, (w4.setCell ⟨w.heap.size + 1 + 1, 0, none⟩ u).cell? ⟨w.heap.size + 1 + 1 + 1, 0, none⟩ = some (.int .i64 0) := fun u => (C1.h9.apart_ (p := ⟨w.heap.size + 1 + 1, 0, none⟩) (by show w.heap.size + 1 + 1 + 1 ≠ w.heap.size + 1 + 1; omega) u).read 0
      have F8 := C1.h8.open_ 0
      have F9 := C1.h9.open_ 0
      have HC := Lib.hid C1
      have hsn : ∀ b, isB fr tz (f, p, q) = b → (pre ++ [(f, p, q)]).find? (isB fr tz) = if b then some (f, p, q) else none := fun b hb => by
        rw [List.find?_append, C1.no, Option.none_or, List.find?_cons, hb]; cases b <;> rfl
      have HSN := Lib.hid hsn
      clear hsn C1 C HV hc hz4
      have hnn : ∀ b, w.heap.size < b → b < d1 → ¬ ((fun k => (k < w.heap.size ∨ k = d1 ∨ k = d1 + 1) ∨ w3.heap.size ≤ k ∧ k < w3.heap.size + 5) b) := fun b h1 h2 h => by
        rcases h with (h | h | h) | h <;> omega
      have HNN := Lib.hid hnn
      clear hnn
      by_cases k1 : fr < f
      · have q1 : decide (fr < f) = true := decide_eq_true k1
        by_cases k2 : f ≤ tz
        · have q2 : decide (f ≤ tz) = true := decide_eq_true k2
          by_cases k3 : p < q
          · have q3 : decide (p < q) = true := decide_eq_true k3
            have HB := Lib.hid (HSN.out true (by simp [isB, k1, k2, k3]))
            clear k1 k2 k3
            gi_wp2
            have C1 := HC.out
            exact ⟨(Kps.put (S := fun k => (k < w.heap.size ∨ k = d1 ∨ k = d1 + 1) ∨ w3.heap.size ≤ k ∧ k < w3.heap.size + 5) _ ⟨w.heap.size + 1 + 1, 0, none⟩ _ (HNN.out (w.heap.size + 1 + 1) (by omega) (by omega))).trans (Kps.put (S := fun k => (k < w.heap.size ∨ k = d1 ∨ k = d1 + 1) ∨ w3.heap.size ≤ k ∧ k < w3.heap.size + 5) _ ⟨w.heap.size + 1 + 1 + 1, 0, none⟩ _ (HNN.out (w.heap.size + 1 + 1 + 1) (by omega) (by omega))),
              ⟨(C1.bl.setCell (p := ⟨w.heap.size + 1 + 1, 0, none⟩) (by show w.heap.size ≤ w.heap.size + 1 + 1; omega) _).setCell (p := ⟨w.heap.size + 1 + 1 + 1, 0, none⟩) (by show w.heap.size ≤ w.heap.size + 1 + 1 + 1; omega) _,
                ⟨f, (C1.h8.put_ 0 _).apart_ (by show w.heap.size + 1 + 1 ≠ w.heap.size + 1 + 1 + 1; omega) _, by rw [HB.out]; rfl⟩, (C1.h9.apart_ (by show w.heap.size + 1 + 1 + 1 ≠ w.heap.size + 1 + 1; omega) _).put_ 0 _⟩⟩
          · have q3 : decide (p < q) = false := decide_eq_false k3
            have HB := Lib.hid (HSN.out false (by simp [isB, k3]))
            clear k1 k2 k3
            gi_wp2
            have C1 := HC.out
            exact ⟨Kps.refl _ _, ⟨C1.h6, C1.h7, C1.h8, C1.h9, C1.bl, HB.out⟩⟩
        · have q2 : decide (f ≤ tz) = false := decide_eq_false k2
          have HB := Lib.hid (HSN.out false (by simp [isB, k2]))
          clear k1 k2
          gi_wp2
          have C1 := HC.out
          exact ⟨Kps.refl _ _, ⟨C1.h6, C1.h7, C1.h8, C1.h9, C1.bl, HB.out⟩⟩
      · have q1 : decide (fr < f) = false := decide_eq_false k1
        have HB := Lib.hid (HSN.out false (by simp [isB, k1]))
        clear k1
        gi_wp2
        have C1 := HC.out
        exact ⟨Kps.refl _ _, ⟨C1.h6, C1.h7, C1.h8, C1.h9, C1.bl, HB.out⟩⟩
    case done =>
      rintro W C hK
      have E5 : Eb w w.heap.size none none [] [] fr tz W := ⟨C.h6, C.h7, C.h8, C.h9, ⟨fun _ => rfl, fun a ha => (by cases ha), Nat.zero_le _, fun x hx => (by cases hx)⟩, ⟨fun _ => rfl, fun a ha => (by cases ha), Nat.zero_le _, fun x hx => (by cases hx)⟩, C.bl⟩
      obtain ⟨-, -, r8, r9, f8, f9, r89⟩ := E5.reads
      have hno := Lib.hid C.no
      have HK : Hid (((W.setCell ⟨w.heap.size + 1 + 1, 0, none⟩ (.int .i64 0)).setCell ⟨w.heap.size + 1 + 1 + 1, 0, none⟩ (.int .i64 12)).heap[w3.heap.size]? = some (.deferred (some []))) := Lib.hid (by
        rw [Below.heap_setCell _ _ _ _ (show w3.heap.size ≠ w.heap.size + 1 + 1 + 1 by omega), Below.heap_setCell _ _ _ _ (show w3.heap.size ≠ w.heap.size + 1 + 1 by omega)]; exact hK)
      clear C I0
      go_wp2
      refine ⟨by simp, .inl ⟨_, _, rfl, run_takeDeferred HK.out, ?_⟩⟩
      have X8 := ((E5.h8.put_ 0 (.int .i64 0)).apart_ (p := ⟨w.heap.size + 1 + 1 + 1, 0, none⟩) (by show w.heap.size + 1 + 1 ≠ w.heap.size + 1 + 1 + 1; omega) (.int .i64 12)).obj (.deferred none) (l := w3.heap.size) (by omega)
      have X9 := ((E5.h9.apart_ (p := ⟨w.heap.size + 1 + 1, 0, none⟩) (by show w.heap.size + 1 + 1 + 1 ≠ w.heap.size + 1 + 1; omega) (.int .i64 0)).put_ 0 (.int .i64 12)).obj (.deferred none) (l := w3.heap.size) (by omega)
      have x8 : (((W.setCell ⟨w.heap.size + 1 + 1, 0, none⟩ (.int .i64 0)).setCell ⟨w.heap.size + 1 + 1 + 1, 0, none⟩ (.int .i64 12)).putObj w3.heap.size (.deferred none)).cell? ⟨w.heap.size + 1 + 1, 0, none⟩ = some (.int .i64 0) := X8.read 0
      have x9 : (((W.setCell ⟨w.heap.size + 1 + 1, 0, none⟩ (.int .i64 0)).setCell ⟨w.heap.size + 1 + 1 + 1, 0, none⟩ (.int .i64 12)).putObj w3.heap.size (.deferred none)).cell? ⟨w.heap.size + 1 + 1 + 1, 0, none⟩ = some (.int .i64 12) := X9.read 0
      refine ⟨.tuple #[.int .i64 0, .int .i64 12], by simp [results, Try.results24, go_sem, x8, x9], ?_, below_obj (E5.two 0 12).2.2 _ (by omega)⟩
      rw [hres.out, hno.out]; rfl
    case stop =>
      rintro pre rest W hxs X hK
      obtain ⟨x, h8, hp⟩ := X.ex
      have h9 := X.h9
      have HX := Lib.hid X
      have HP := Lib.hid hp
      clear hp X
      gi_wp2
      refine ⟨by simp, .inl ⟨_, _, rfl, run_takeDeferred hK, ?_⟩⟩
      have x8 : (W.putObj w3.heap.size (.deferred none)).cell? ⟨w.heap.size + 1 + 1, 0, none⟩ = some (.int .i64 x) := (h8.obj (.deferred none) (l := w3.heap.size) (by omega)).read 0
      have x9 : (W.putObj w3.heap.size (.deferred none)).cell? ⟨w.heap.size + 1 + 1 + 1, 0, none⟩ = some (.int .i64 0) := (h9.obj (.deferred none) (l := w3.heap.size) (by omega)).read 0
      refine ⟨.tuple #[.int .i64 x, .int .i64 0], by simp [results, Try.results24, go_sem, x8, x9], ?_, below_obj HX.out.bl _ (by omega)⟩
      have hf : ((tog la lb).find? (isB fr tz)).map (·.1) = some x := by
        rw [hxs, List.find?_append]
        cases h : pre.find? (isB fr tz) with
        | none => have := HP.out; rw [h] at this; cases this
        | some e => have := HP.out; rw [h] at this; exact this
      rw [hres.out, hf])

theorem below_any (pa pb : Option Addr) (la lb : List Stp) (ca cb : Nat) (fr tz : Int) (w : World) (hA : Sl w pa la) (hB : Sl w pb lb) :
    Calls Try.prog 24 #[.slice pa la.length ca, .slice pb lb.length cb, .int .i64 fr, .int .i64 tz] w fun e w' => e = .returned (.tuple #[.int .i64 (belR la lb fr tz).1, .int .i64 (belR la lb fr tz).2]) ∧ Below w.heap.size w w' := by
  cases h : (okS la && okS lb)
  · have e : belR la lb fr tz = (0, 1) := by unfold belR; rw [if_neg (by rw [h]; simp)]
    rw [e]
    exact below_bad pa pb la lb ca cb fr tz w hA hB h
  · have h' := h
    rw [Bool.and_eq_true] at h'
    cases hR : rng fr tz
    · have e : belR la lb fr tz = (0, 2) := by unfold belR; rw [if_pos h, if_neg (by rw [hR]; simp)]
      rw [e]
      exact below_rng pa pb la lb ca cb fr tz w hA hB h'.1 h'.2 hR
    · by_cases hlt : va la fr < va lb fr
      · have e : belR la lb fr tz = (fr, 0) := by unfold belR bel; rw [if_pos h, if_pos hR, if_pos hlt]
        rw [e]
        exact below_lt pa pb la lb ca cb fr tz w hA hB h'.1 h'.2 hR hlt
      · exact below_ok pa pb la lb ca cb fr tz w hA hB (okS_to h'.1) (okS_to h'.2) hR hlt
end Go.Proofs.Ytbohcedclnbcdaa
