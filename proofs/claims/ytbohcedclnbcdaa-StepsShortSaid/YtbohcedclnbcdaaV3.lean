/- Two lists gone through together: the iterator. -/
import Derived.Test.YtbohcedclnbcdaaV2
namespace Go.Proofs.Ytbohcedclnbcdaa
open Go.ChangeShapes Go.WideShapes Go.ChangeAt Go.RowKit Go.Shelf
attribute [local go_sem] Oper.semAt_some
set_option linter.unusedVariables false
set_option linter.unusedSimpArgs false

def encs (e : Int × Int × Int) : Array Value := #[.int .i64 e.1, .agg #[.int .i64 e.2.1, .int .i64 e.2.2]]
theorem Kps.cell {S : Nat → Prop} {A B : World} (h : Kps S A B) {a : Addr} {v : Value} (hs : S a.block) (hc : A.cell? a = some v) : B.cell? a = some v := by
  have := h.block a.block (lt_of_cell hc) hs
  unfold World.cell? at hc ⊢; rw [this]; exact hc
theorem add_block (a : Addr) (n : Nat) : (a.add n).block = a.block := by
  unfold Addr.add
  split <;> rfl
theorem Sl.kps {S : Nat → Prop} {A B : World} {p : Option Addr} {l : List Stp} (h : Sl A p l) (hk : Kps S A B) (hs : ∀ a, p = some a → l ≠ [] → S a.block) : Sl B p l :=
  ⟨h.1, fun a ha i hi => ⟨hk.cell (by rw [add_block]; exact hs a ha (fun e => by rw [e] at hi; simp at hi)) (h.2.1 a ha i hi).1, hk.cell (by show S (a.add (i * 2)).block; rw [add_block]; exact hs a ha (fun e => by rw [e] at hi; simp at hi)) (h.2.1 a ha i hi).2⟩, h.2.2⟩
theorem Sl.lt {w : World} {p : Option Addr} {l : List Stp} (h : Sl w p l) : ∀ a, p = some a → l ≠ [] → a.block < w.heap.size := fun a ha hn => by
  have hp : 0 < l.length := List.length_pos_iff.2 hn
  have := lt_of_cell (h.2.1 a ha 0 hp).1
  rw [add_block] at this; exact this
theorem Has.kps {S : Nat → Prop} {A B : World} {g : Nat} {t : TypeId} {cs : Array Value} (h : Has A g t cs) (hk : Kps S A B) (hs : S g) : Has B g t cs := by
  unfold Has; rw [hk.block g h.size_ hs]; exact h
def cellN (w : World) (g : Nat) : Nat := match w.cell? ⟨g, 0, none⟩ with | some (.int _ z) => z.toNat | _ => 0
/-- What the iterator's own cells hold, and what it reads. -/
structure Cur (w : World) (A gi gj g1 g2 : Nat) (pa pb : Option Addr) (la lb : List Stp) (ca cb : Nat) (p q : Int) (i j : Nat) : Prop where
  hv : Has w A 72 #[.int .i64 p, .int .i64 q]
  hi : Has w gi 3 #[.int .i64 i]
  hj : Has w gj 3 #[.int .i64 j]
  c3 : w.cell? ⟨g1, 0, none⟩ = some (.slice pa la.length ca)
  c4 : w.cell? ⟨g2, 0, none⟩ = some (.slice pb lb.length cb)
  sa : Sl w pa la
  sb : Sl w pb lb
theorem Cur.kps {w w' : World} {A gi gj g1 g2 : Nat} {pa pb : Option Addr} {la lb : List Stp} {ca cb : Nat} {p q : Int} {i j : Nat} (C : Cur w A gi gj g1 g2 pa pb la lb ca cb p q i j) {S : Nat → Prop} (hk : Kps S w w')
    (h1 : S A) (h2 : S gi) (h3 : S gj) (h4 : S g1) (h5 : S g2) (h6 : ∀ a, pa = some a → la ≠ [] → S a.block) (h7 : ∀ a, pb = some a → lb ≠ [] → S a.block) : Cur w' A gi gj g1 g2 pa pb la lb ca cb p q i j :=
  ⟨C.hv.kps hk h1, C.hi.kps hk h2, C.hj.kps hk h3, hk.cell h4 C.c3, hk.cell h5 C.c4, C.sa.kps hk h6, C.sb.kps hk h7⟩
/-- Which blocks are not those of the cells. -/
structure Nq (A gi gj g1 g2 : Nat) (pa pb : Option Addr) (la lb : List Stp) : Prop where
  a : A ≠ gi
  b : A ≠ gj
  c : gi ≠ gj
  d : g1 < A
  e : g2 < A
  f : A < gi
  g : A < gj
  h : ∀ a, pa = some a → la ≠ [] → a.block < A
  k : ∀ a, pb = some a → lb ≠ [] → a.block < A
theorem Cur.low {w : World} {A gi gj g1 g2 : Nat} {pa pb : Option Addr} {la lb : List Stp} {ca cb : Nat} {p q p' q' : Int} {i j i' j' : Nat} (C : Cur w A gi gj g1 g2 pa pb la lb ca cb p q i j) (N : Nq A gi gj g1 g2 pa pb la lb) (x : Addr) (u : Value) (hx : A ≤ x.block)
    (h1 : Has (w.setCell x u) A 72 #[.int .i64 p', .int .i64 q']) (h2 : Has (w.setCell x u) gi 3 #[.int .i64 i']) (h3 : Has (w.setCell x u) gj 3 #[.int .i64 j']) : Cur (w.setCell x u) A gi gj g1 g2 pa pb la lb ca cb p' q' i' j' := by
  have hk : Kps (fun k => k < A) w (w.setCell x u) := Kps.put _ _ _ (by simp only [Nat.not_lt]; exact hx)
  exact ⟨h1, h2, h3, hk.cell N.d C.c3, hk.cell N.e C.c4, C.sa.kps hk N.h, C.sb.kps hk N.k⟩
theorem Cur.p0 {w : World} {A gi gj g1 g2 : Nat} {pa pb : Option Addr} {la lb : List Stp} {ca cb : Nat} {p q : Int} {i j : Nat} (C : Cur w A gi gj g1 g2 pa pb la lb ca cb p q i j) (N : Nq A gi gj g1 g2 pa pb la lb) (t : Int) :
    Cur (w.setCell ⟨A, 0, none⟩ (.int .i64 t)) A gi gj g1 g2 pa pb la lb ca cb t q i j :=
  C.low N _ _ (Nat.le_refl _) (C.hv.put_ 0 _) (C.hi.apart_ (Ne.symm N.a) _) (C.hj.apart_ (Ne.symm N.b) _)
theorem Cur.p1 {w : World} {A gi gj g1 g2 : Nat} {pa pb : Option Addr} {la lb : List Stp} {ca cb : Nat} {p q : Int} {i j : Nat} (C : Cur w A gi gj g1 g2 pa pb la lb ca cb p q i j) (N : Nq A gi gj g1 g2 pa pb la lb) (t : Int) :
    Cur (w.setCell ⟨A, 1, none⟩ (.int .i64 t)) A gi gj g1 g2 pa pb la lb ca cb p t i j :=
  C.low N _ _ (Nat.le_refl _) (C.hv.put_ 1 _) (C.hi.apart_ (Ne.symm N.a) _) (C.hj.apart_ (Ne.symm N.b) _)
theorem Cur.pi {w : World} {A gi gj g1 g2 : Nat} {pa pb : Option Addr} {la lb : List Stp} {ca cb : Nat} {p q : Int} {i j : Nat} (C : Cur w A gi gj g1 g2 pa pb la lb ca cb p q i j) (N : Nq A gi gj g1 g2 pa pb la lb) :
    Cur (w.setCell ⟨gi, 0, none⟩ (.int .i64 ((i : Int) + 1))) A gi gj g1 g2 pa pb la lb ca cb p q (i + 1) j :=
  C.low N _ _ (Nat.le_of_lt N.f) (C.hv.apart_ N.a _) (C.hi.put_ 0 _) (C.hj.apart_ (Ne.symm N.c) _)
theorem Cur.pj {w : World} {A gi gj g1 g2 : Nat} {pa pb : Option Addr} {la lb : List Stp} {ca cb : Nat} {p q : Int} {i j : Nat} (C : Cur w A gi gj g1 g2 pa pb la lb ca cb p q i j) (N : Nq A gi gj g1 g2 pa pb la lb) :
    Cur (w.setCell ⟨gj, 0, none⟩ (.int .i64 ((j : Int) + 1))) A gi gj g1 g2 pa pb la lb ca cb p q i (j + 1) :=
  C.low N _ _ (Nat.le_of_lt N.g) (C.hv.apart_ N.b _) (C.hi.apart_ N.c _) (C.hj.put_ 0 _)
theorem Cur.drew {w : World} {A gi gj g1 g2 : Nat} {pa pb : Option Addr} {la lb : List Stp} {ca cb : Nat} {p q : Int} {i j : Nat} (C : Cur w A gi gj g1 g2 pa pb la lb ca cb p q i j) (n : Nat) : Cur (w.drewN n) A gi gj g1 g2 pa pb la lb ca cb p q i j :=
  ⟨C.hv, C.hi, C.hj, C.c3, C.c4, C.sa, C.sb⟩
/-- What the walk reads off the cells. -/
theorem Cur.reads {w : World} {A gi gj g1 g2 : Nat} {pa pb : Option Addr} {la lb : List Stp} {ca cb : Nat} {p q : Int} {i j : Nat} (C : Cur w A gi gj g1 g2 pa pb la lb ca cb p q i j) :
    w.cell? ⟨A, 0, none⟩ = some (.int .i64 p) ∧ w.cell? ⟨A, 1, none⟩ = some (.int .i64 q) ∧ w.cell? ⟨gi, 0, none⟩ = some (.int .i64 i) ∧ w.cell? ⟨gj, 0, none⟩ = some (.int .i64 j) ∧
      w.frozen? ⟨A, 0, none⟩ = false ∧ w.frozen? ⟨A, 1, none⟩ = false ∧ w.frozen? ⟨gi, 0, none⟩ = false ∧ w.frozen? ⟨gj, 0, none⟩ = false :=
  ⟨C.hv.read 0, C.hv.read 1, C.hi.read 0, C.hj.read 0, C.hv.open_ 0, C.hv.open_ 1, C.hi.open_ 0, C.hj.open_ 0⟩
theorem Cur.nxt {w : World} {A gi gj g1 g2 : Nat} {pa pb : Option Addr} {la lb : List Stp} {ca cb : Nat} {p q : Int} {i j : Nat} (C : Cur w A gi gj g1 g2 pa pb la lb ca cb p q i j) :
    Calls Try.prog 57 #[.pointer (some ⟨gi, 0, none⟩), .pointer (some ⟨g1, 0, none⟩), .pointer (some ⟨gj, 0, none⟩), .pointer (some ⟨g2, 0, none⟩)] w fun e w' =>
      e = .returned (.tuple #[.int .i64 ((nx (la.drop i) (lb.drop j)).getD 0), .bool (nx (la.drop i) (lb.drop j)).isSome]) ∧ ∃ n, w' = w.drewN n :=
  next_any pa pb la lb ca cb gi gj g1 g2 i j w (C.hi.read 0) (C.hj.read 0) C.c3 C.c4 C.sa C.sb
/-- The invariant of the iterator's loop. -/
structure Tgo (J : List (Int × Int × Int) → World → Prop) (w : World) (A gi gj g1 g2 : Nat) (pa pb : Option Addr) (la lb : List Stp) (ca cb : Nat) (f m : Value) : Prop where
  ex : ∃ (pre : List (Int × Int × Int)) (p q : Int) (i j n : Nat), tog la lb = pre ++ tg n p q (la.drop i) (lb.drop j) ∧ (la.drop i).length + (lb.drop j).length ≤ n ∧ i ≤ la.length ∧ j ≤ lb.length ∧
    f = .int .i64 ((nx (la.drop i) (lb.drop j)).getD 0) ∧ m = .bool (nx (la.drop i) (lb.drop j)).isSome ∧ Cur w A gi gj g1 g2 pa pb la lb ca cb p q i j ∧ J pre w
  sz : A + 3 ≤ w.heap.size
def meas (la lb : List Stp) (gi gj : Nat) (w : World) : Nat := la.length + lb.length - (cellN w gi + cellN w gj)
theorem meas_eq {w : World} {A gi gj g1 g2 : Nat} {pa pb : Option Addr} {la lb : List Stp} {ca cb : Nat} {p q : Int} {i j : Nat} (C : Cur w A gi gj g1 g2 pa pb la lb ca cb p q i j) : meas la lb gi gj w = la.length + lb.length - (i + j) := by
  unfold meas cellN
  rw [C.hi.read 0, C.hj.read 0]
  simp
theorem ad_drop_yes {l : List Stp} {i : Nat} (h : i < l.length) {x p : Int} (e : l[i].1 = x) : ad x p (l.drop i) = (l[i].2, l.drop (i + 1)) := by rw [drop_at h, ad_yes e]
theorem ad_drop_no {l : List Stp} {i : Nat} (h : i < l.length) {x p : Int} (e : l[i].1 ≠ x) : ad x p (l.drop i) = (p, l.drop i) := by rw [drop_at h, ad_no e]
theorem ad_drop_end {l : List Stp} {i : Nat} (h : ¬ i < l.length) {x p : Int} : ad x p (l.drop i) = (p, l.drop i) := by rw [drop_no h]; rfl
theorem nx_head {la lb : List Stp} {i j : Nat} {x : Int} (h : nx (la.drop i) (lb.drop j) = some x) : (∃ hi : i < la.length, la[i].1 = x) ∨ ∃ hj : j < lb.length, lb[j].1 = x := by
  by_cases hi : i < la.length
  · by_cases hj : j < lb.length
    · rw [drop_at hi, drop_at hj] at h
      simp only [nx, Option.some.injEq] at h
      rcases Int.le_total la[i].1 lb[j].1 with k | k
      · exact .inl ⟨hi, by omega⟩
      · exact .inr ⟨hj, by omega⟩
    · rw [drop_at hi, drop_no hj] at h; cases h; exact .inl ⟨hi, rfl⟩
  · by_cases hj : j < lb.length
    · rw [drop_no hi, drop_at hj] at h; cases h; exact .inr ⟨hj, rfl⟩
    · rw [drop_no hi, drop_no hj] at h; cases h
set_option maxHeartbeats 4000000 in
set_option maxRecDepth 100000 in
theorem tog_yields (n : Nat) (pa pb : Option Addr) (la lb : List Stp) (ca cb g1 g2 : Nat) (S : Nat → Prop) (W : World)
    (h3 : W.cell? ⟨g1, 0, none⟩ = some (.slice pa la.length ca)) (h4 : W.cell? ⟨g2, 0, none⟩ = some (.slice pb lb.length cb)) (hA : Sl W pa la) (hB : Sl W pb lb)
    (s1 : S g1) (s2 : S g2) (sa : ∀ a, pa = some a → la ≠ [] → S a.block) (sb : ∀ a, pb = some a → lb ≠ [] → S a.block) (hS : ∀ k, S k → k < W.heap.size) (la2 : la.length ≤ 1000) (lb2 : lb.length ≤ 1000) :
    Yields n Try.prog 56 #[.pointer (some ⟨g1, 0, none⟩), .pointer (some ⟨g2, 0, none⟩)] encs S (tog la lb) W := by
  intro l J Jx hJ hJx hY h0
  refine callsIn_of_wp Try.func56 rfl trivial ?_
  simp only [Try.ntmps56, List.size_toArray, List.length_cons, List.length_nil, Nat.reduceAdd, Nat.reduceSub, Array.replicate_succ, Array.replicate_zero, List.push_toArray, List.append_toArray, List.nil_append, List.cons_append]
  gi_wp2
  have hN : Nq W.heap.size (W.heap.size + 1) (W.heap.size + 1 + 1) g1 g2 pa pb la lb := ⟨by omega, by omega, by omega, hS _ s1, hS _ s2, by omega, by omega, fun a ha hn => hS _ (sa a ha hn), fun a ha hn => hS _ (sb a ha hn)⟩
  have H1 := Has.new_ W 72 #[.int .i64 0, .int .i64 0]
  have B1 := al1 W (.cells #[.int .i64 0, .int .i64 0] 72)
  have B2 := al B1 (.cells #[.int .i64 0] 3)
  have B3 := al B2 (.cells #[.int .i64 0] 3)
  have H2 := Has.new_ (W.alloc (.cells #[.int .i64 0, .int .i64 0] 72)) 3 #[.int .i64 0]
  have H3 := Has.new_ ((W.alloc (.cells #[.int .i64 0, .int .i64 0] 72)).alloc (.cells #[.int .i64 0] 3)) 3 #[.int .i64 0]
  rw [World.size_alloc] at H2
  rw [World.size_alloc, World.size_alloc] at H3
  have C0 : Cur (((W.alloc (.cells #[.int .i64 0, .int .i64 0] 72)).alloc (.cells #[.int .i64 0] 3)).alloc (.cells #[.int .i64 0] 3)) W.heap.size (W.heap.size + 1) (W.heap.size + 1 + 1) g1 g2 pa pb la lb ca cb 0 0 0 0 :=
    ⟨(H1.on (al1 _ _)).on (al1 _ _), H2.on (al1 _ _), H3, cell_later B3 h3, cell_later B3 h4, hA.on B3, hB.on B3⟩
  have hz0 : W.heap.size + 3 ≤ (((W.alloc (.cells #[.int .i64 0, .int .i64 0] 72)).alloc (.cells #[.int .i64 0] 3)).alloc (.cells #[.int .i64 0] 3)).heap.size := by simp
  have j0 : J [] (((W.alloc (.cells #[.int .i64 0, .int .i64 0] 72)).alloc (.cells #[.int .i64 0] 3)).alloc (.cells #[.int .i64 0] 3)) := hJ _ _ _ h0 (((Chg.alloc _ _).trans (Chg.alloc _ _)).trans (Chg.alloc _ _))
  clear H1 H2 H3 B1 B2 B3 h0 h3 h4 hA hB
  generalize (((W.alloc (.cells #[.int .i64 0, .int .i64 0] 72)).alloc (.cells #[.int .i64 0] 3)).alloc (.cells #[.int .i64 0] 3)) = W0 at *
  have hgi : W.heap.size ≤ W.heap.size + 1 ∧ W.heap.size + 1 < W.heap.size + 3 := by omega
  have hgj : W.heap.size ≤ W.heap.size + 1 + 1 ∧ W.heap.size + 1 + 1 < W.heap.size + 3 := by omega
  generalize W.heap.size + 1 + 1 = gj at *
  generalize W.heap.size + 1 = gi at *
  have HS := Lib.hid hS
  clear hS
  have N1 := hN.a
  have N2 := hN.b
  have N3 := hN.c
  have N1' := Ne.symm N1
  have N2' := Ne.symm N2
  have N3' := Ne.symm N3
  gi_wp2_with ((refine ⟨trivial, fun h => (by cases h), ?_⟩); gi_at_call 57; refine (callsIn_wide.2 C0.nxt).mono ?_; rintro e w1 ⟨rfl, m1, rfl⟩)
  gi_loopw [8, 9] (fun f m wr => Tgo J wr W.heap.size gi gj g1 g2 pa pb la lb ca cb f m) (fun _ _ wr => meas la lb gi gj wr)
  case atStart => exact ⟨⟨[], 0, 0, 0, 0, la.length + lb.length, rfl, by simp, Nat.zero_le _, Nat.zero_le _, rfl, rfl, C0.drew _, hJ _ _ _ j0 (Chg.drew _ _)⟩, hz0⟩
  case round =>
    clear C0 j0 hz0
    obtain ⟨⟨pre, p, q, i, j, k, hT, hk, hi, hj, rfl, rfl, C, hJp⟩, hz⟩ := hrel
    have hM := meas_eq C
    cases hx : nx (la.drop i) (lb.drop j) with
    | none =>
      rw [tg_none hx, List.append_nil] at hT
      have HT := Lib.hid hT
      clear hT hx
      simp only [Option.getD_none, Option.isSome_none]
      gi_wp2
      go_end0
      exact ⟨⟨_, rfl⟩, .inl (by rw [HT.out]; exact hJp)⟩
    | some x =>
      have hl := nx_len (p := p) (q := q) hx
      obtain ⟨k, rfl⟩ : ∃ k', k = k' + 1 := ⟨k - 1, by omega⟩
      rw [tg_some hx] at hT
      have hh := nx_head hx
      have HX := Lib.hid hx
      clear hx
      simp only [Option.getD_some, Option.isSome_some]
      have Wi : IntKind.i64.wrap ((i : Int) + 1) = (i : Int) + 1 := by rw [IntWalk.i64_in _ (by omega)]
      have Wj : IntKind.i64.wrap ((j : Int) + 1) = (j : Int) + 1 := by rw [IntWalk.i64_in _ (by omega)]
      have c3 := C.c3
      have c4 := C.c4
      obtain ⟨r1, r2, r3, r4, r5, r6, r7, r8⟩ := C.reads
      by_cases hi1 : i < la.length
      · by_cases ha : la[i].1 = x
        · by_cases hj1 : j < lb.length
          · by_cases hb : lb[j].1 = x
            · obtain ⟨aa, rfl, a0, a1⟩ := C.sa.at hi1
              have ga : decide ((i : Int) < (la.length : Int)) = true := by simp [hi1]
              have qa1 : (0 : Int) ≤ (i : Int) := by omega
              have qa2 : (i : Int) < (la.length : Int) := by omega
              have ea1 : decide (la[i].1 = x) = true := by simp [ha]
              have ea2 : (la[i].1 == x) = true := by simp [ha]
              rw [ad_drop_yes hi1 ha] at hT hl
              have C1 := C.p0 hN la[i].2
              obtain ⟨r1a, r2a, r3a, r4a, r5a, r6a, r7a, r8a⟩ := C1.reads
              have c3a := C1.c3
              have c4a := C1.c4
              have C2 := C1.pi hN
              obtain ⟨r1b, r2b, r3b, r4b, r5b, r6b, r7b, r8b⟩ := C2.reads
              have c3b := C2.c3
              have c4b := C2.c4
              obtain ⟨bb, eb, b0, b1⟩ := C2.sb.at hj1
              have gb : decide ((j : Int) < (lb.length : Int)) = true := by simp [hj1]
              have qb1 : (0 : Int) ≤ (j : Int) := by omega
              have qb2 : (j : Int) < (lb.length : Int) := by omega
              have eb1 : decide (lb[j].1 = x) = true := by simp [hb]
              have eb2 : (lb[j].1 == x) = true := by simp [hb]
              rw [ad_drop_yes hj1 hb] at hT hl
              subst eb
              have C3 := C2.p1 hN lb[j].2
              obtain ⟨r1c, r2c, r3c, r4c, r5c, r6c, r7c, r8c⟩ := C3.reads
              have c3c := C3.c3
              have c4c := C3.c4
              have C4 := C3.pj hN
              obtain ⟨r1d, r2d, r3d, r4d, r5d, r6d, r7d, r8d⟩ := C4.reads
              have c3d := C4.c3
              have c4d := C4.c4
              have J2 := hJ _ _ _ hJp (Chg.trans (Chg.trans (Chg.trans (Chg.put _ ⟨W.heap.size, 0, none⟩ (.int .i64 la[i].2) (Nat.le_refl _) (by show W.heap.size < W.heap.size + 3; omega)) (Chg.put _ ⟨gi, 0, none⟩ (.int .i64 ((i : Int) + 1)) hgi.1 hgi.2)) (Chg.put _ ⟨W.heap.size, 1, none⟩ (.int .i64 lb[j].2) (Nat.le_refl _) (by show W.heap.size < W.heap.size + 3; omega))) (Chg.put _ ⟨gj, 0, none⟩ (.int .i64 ((j : Int) + 1)) hgj.1 hgj.2))
              obtain ⟨fn, tmps, assign, body, hy, hR⟩ := hY pre _ _ _ hT J2 (by simp; omega)
              dsimp only [encs] at hy
              have HT := Lib.hid hT
              have HL := Lib.hid hl
              clear hT hl
              gi_wp2
              refine ⟨fun h => (by cases h), hR.mono ?_⟩
              rintro e W3 (⟨rfl, hJ3, hk3⟩ | ⟨rfl, hJx3⟩)
              · have C5 := C4.kps hk3 (.inr ⟨Nat.le_refl _, by omega⟩) (.inr hgi) (.inr hgj) (.inl s1) (.inl s2) (fun a ha hn => .inl (sa a ha hn)) (fun a ha hn => .inl (sb a ha hn))
                gi_wp2_with ((refine ⟨trivial, fun h => (by cases h), ?_⟩); gi_at_call 57; refine (callsIn_wide.2 C5.nxt).mono ?_; rintro e w1 ⟨rfl, m1, rfl⟩)
                go_roundw
                case rel => exact ⟨⟨_, _, _, (i + 1), (j + 1), k, by rw [List.append_assoc]; exact HT.out, by have := HL.out; omega, by omega, by omega, rfl, rfl, C5.drew _, hJ _ _ _ hJ3 (Chg.drew _ _)⟩, by have := hk3.size; simp at this ⊢; omega⟩
                case measure =>
                  rw [meas_eq (C5.drew _), hM]; omega
              · gi_wp2
                refine bodyPost_ret (results_none rfl _ _ _) rfl ?_
                exact ⟨⟨_, rfl⟩, .inr ⟨_, _, by rw [List.append_assoc]; exact HT.out, hJx3⟩⟩
            · obtain ⟨aa, rfl, a0, a1⟩ := C.sa.at hi1
              have ga : decide ((i : Int) < (la.length : Int)) = true := by simp [hi1]
              have qa1 : (0 : Int) ≤ (i : Int) := by omega
              have qa2 : (i : Int) < (la.length : Int) := by omega
              have ea1 : decide (la[i].1 = x) = true := by simp [ha]
              have ea2 : (la[i].1 == x) = true := by simp [ha]
              rw [ad_drop_yes hi1 ha] at hT hl
              have C1 := C.p0 hN la[i].2
              obtain ⟨r1a, r2a, r3a, r4a, r5a, r6a, r7a, r8a⟩ := C1.reads
              have c3a := C1.c3
              have c4a := C1.c4
              have C2 := C1.pi hN
              obtain ⟨r1b, r2b, r3b, r4b, r5b, r6b, r7b, r8b⟩ := C2.reads
              have c3b := C2.c3
              have c4b := C2.c4
              obtain ⟨bb, eb, b0, b1⟩ := C2.sb.at hj1
              have gb : decide ((j : Int) < (lb.length : Int)) = true := by simp [hj1]
              have qb1 : (0 : Int) ≤ (j : Int) := by omega
              have qb2 : (j : Int) < (lb.length : Int) := by omega
              have eb1 : decide (lb[j].1 = x) = false := by simp [hb]
              have eb2 : (lb[j].1 == x) = false := by simp [hb]
              rw [ad_drop_no hj1 hb] at hT hl
              subst eb
              have J2 := hJ _ _ _ hJp (Chg.trans (Chg.put _ ⟨W.heap.size, 0, none⟩ (.int .i64 la[i].2) (Nat.le_refl _) (by show W.heap.size < W.heap.size + 3; omega)) (Chg.put _ ⟨gi, 0, none⟩ (.int .i64 ((i : Int) + 1)) hgi.1 hgi.2))
              obtain ⟨fn, tmps, assign, body, hy, hR⟩ := hY pre _ _ _ hT J2 (by simp; omega)
              dsimp only [encs] at hy
              have HT := Lib.hid hT
              have HL := Lib.hid hl
              clear hT hl
              gi_wp2
              refine ⟨fun h => (by cases h), hR.mono ?_⟩
              rintro e W3 (⟨rfl, hJ3, hk3⟩ | ⟨rfl, hJx3⟩)
              · have C5 := C2.kps hk3 (.inr ⟨Nat.le_refl _, by omega⟩) (.inr hgi) (.inr hgj) (.inl s1) (.inl s2) (fun a ha hn => .inl (sa a ha hn)) (fun a ha hn => .inl (sb a ha hn))
                gi_wp2_with ((refine ⟨trivial, fun h => (by cases h), ?_⟩); gi_at_call 57; refine (callsIn_wide.2 C5.nxt).mono ?_; rintro e w1 ⟨rfl, m1, rfl⟩)
                go_roundw
                case rel => exact ⟨⟨_, _, _, (i + 1), j, k, by rw [List.append_assoc]; exact HT.out, by have := HL.out; omega, by omega, by omega, rfl, rfl, C5.drew _, hJ _ _ _ hJ3 (Chg.drew _ _)⟩, by have := hk3.size; simp at this ⊢; omega⟩
                case measure =>
                  rw [meas_eq (C5.drew _), hM]; omega
              · gi_wp2
                refine bodyPost_ret (results_none rfl _ _ _) rfl ?_
                exact ⟨⟨_, rfl⟩, .inr ⟨_, _, by rw [List.append_assoc]; exact HT.out, hJx3⟩⟩
          · obtain ⟨aa, rfl, a0, a1⟩ := C.sa.at hi1
            have ga : decide ((i : Int) < (la.length : Int)) = true := by simp [hi1]
            have qa1 : (0 : Int) ≤ (i : Int) := by omega
            have qa2 : (i : Int) < (la.length : Int) := by omega
            have ea1 : decide (la[i].1 = x) = true := by simp [ha]
            have ea2 : (la[i].1 == x) = true := by simp [ha]
            rw [ad_drop_yes hi1 ha] at hT hl
            have C1 := C.p0 hN la[i].2
            obtain ⟨r1a, r2a, r3a, r4a, r5a, r6a, r7a, r8a⟩ := C1.reads
            have c3a := C1.c3
            have c4a := C1.c4
            have C2 := C1.pi hN
            obtain ⟨r1b, r2b, r3b, r4b, r5b, r6b, r7b, r8b⟩ := C2.reads
            have c3b := C2.c3
            have c4b := C2.c4
            have gb : decide ((j : Int) < (lb.length : Int)) = false := by simp; omega
            rw [ad_drop_end hj1] at hT hl
            have J2 := hJ _ _ _ hJp (Chg.trans (Chg.put _ ⟨W.heap.size, 0, none⟩ (.int .i64 la[i].2) (Nat.le_refl _) (by show W.heap.size < W.heap.size + 3; omega)) (Chg.put _ ⟨gi, 0, none⟩ (.int .i64 ((i : Int) + 1)) hgi.1 hgi.2))
            obtain ⟨fn, tmps, assign, body, hy, hR⟩ := hY pre _ _ _ hT J2 (by simp; omega)
            dsimp only [encs] at hy
            have HT := Lib.hid hT
            have HL := Lib.hid hl
            clear hT hl
            gi_wp2
            refine ⟨fun h => (by cases h), hR.mono ?_⟩
            rintro e W3 (⟨rfl, hJ3, hk3⟩ | ⟨rfl, hJx3⟩)
            · have C5 := C2.kps hk3 (.inr ⟨Nat.le_refl _, by omega⟩) (.inr hgi) (.inr hgj) (.inl s1) (.inl s2) (fun a ha hn => .inl (sa a ha hn)) (fun a ha hn => .inl (sb a ha hn))
              gi_wp2_with ((refine ⟨trivial, fun h => (by cases h), ?_⟩); gi_at_call 57; refine (callsIn_wide.2 C5.nxt).mono ?_; rintro e w1 ⟨rfl, m1, rfl⟩)
              go_roundw
              case rel => exact ⟨⟨_, _, _, (i + 1), j, k, by rw [List.append_assoc]; exact HT.out, by have := HL.out; omega, by omega, by omega, rfl, rfl, C5.drew _, hJ _ _ _ hJ3 (Chg.drew _ _)⟩, by have := hk3.size; simp at this ⊢; omega⟩
              case measure =>
                rw [meas_eq (C5.drew _), hM]; omega
            · gi_wp2
              refine bodyPost_ret (results_none rfl _ _ _) rfl ?_
              exact ⟨⟨_, rfl⟩, .inr ⟨_, _, by rw [List.append_assoc]; exact HT.out, hJx3⟩⟩
        · obtain ⟨hj1, hb⟩ : ∃ hj : j < lb.length, lb[j].1 = x := by rcases hh with ⟨_, h⟩ | h; exact absurd h ha; exact h
          obtain ⟨aa, rfl, a0, a1⟩ := C.sa.at hi1
          have ga : decide ((i : Int) < (la.length : Int)) = true := by simp [hi1]
          have qa1 : (0 : Int) ≤ (i : Int) := by omega
          have qa2 : (i : Int) < (la.length : Int) := by omega
          have ea1 : decide (la[i].1 = x) = false := by simp [ha]
          have ea2 : (la[i].1 == x) = false := by simp [ha]
          rw [ad_drop_no hi1 ha] at hT hl
          obtain ⟨bb, eb, b0, b1⟩ := C.sb.at hj1
          have gb : decide ((j : Int) < (lb.length : Int)) = true := by simp [hj1]
          have qb1 : (0 : Int) ≤ (j : Int) := by omega
          have qb2 : (j : Int) < (lb.length : Int) := by omega
          have eb1 : decide (lb[j].1 = x) = true := by simp [hb]
          have eb2 : (lb[j].1 == x) = true := by simp [hb]
          rw [ad_drop_yes hj1 hb] at hT hl
          subst eb
          have C3 := C.p1 hN lb[j].2
          obtain ⟨r1c, r2c, r3c, r4c, r5c, r6c, r7c, r8c⟩ := C3.reads
          have c3c := C3.c3
          have c4c := C3.c4
          have C4 := C3.pj hN
          obtain ⟨r1d, r2d, r3d, r4d, r5d, r6d, r7d, r8d⟩ := C4.reads
          have c3d := C4.c3
          have c4d := C4.c4
          have J2 := hJ _ _ _ hJp (Chg.trans (Chg.put _ ⟨W.heap.size, 1, none⟩ (.int .i64 lb[j].2) (Nat.le_refl _) (by show W.heap.size < W.heap.size + 3; omega)) (Chg.put _ ⟨gj, 0, none⟩ (.int .i64 ((j : Int) + 1)) hgj.1 hgj.2))
          obtain ⟨fn, tmps, assign, body, hy, hR⟩ := hY pre _ _ _ hT J2 (by simp; omega)
          dsimp only [encs] at hy
          have HT := Lib.hid hT
          have HL := Lib.hid hl
          clear hT hl
          gi_wp2
          refine ⟨fun h => (by cases h), hR.mono ?_⟩
          rintro e W3 (⟨rfl, hJ3, hk3⟩ | ⟨rfl, hJx3⟩)
          · have C5 := C4.kps hk3 (.inr ⟨Nat.le_refl _, by omega⟩) (.inr hgi) (.inr hgj) (.inl s1) (.inl s2) (fun a ha hn => .inl (sa a ha hn)) (fun a ha hn => .inl (sb a ha hn))
            gi_wp2_with ((refine ⟨trivial, fun h => (by cases h), ?_⟩); gi_at_call 57; refine (callsIn_wide.2 C5.nxt).mono ?_; rintro e w1 ⟨rfl, m1, rfl⟩)
            go_roundw
            case rel => exact ⟨⟨_, _, _, i, (j + 1), k, by rw [List.append_assoc]; exact HT.out, by have := HL.out; omega, by omega, by omega, rfl, rfl, C5.drew _, hJ _ _ _ hJ3 (Chg.drew _ _)⟩, by have := hk3.size; simp at this ⊢; omega⟩
            case measure =>
              rw [meas_eq (C5.drew _), hM]; omega
          · gi_wp2
            refine bodyPost_ret (results_none rfl _ _ _) rfl ?_
            exact ⟨⟨_, rfl⟩, .inr ⟨_, _, by rw [List.append_assoc]; exact HT.out, hJx3⟩⟩
      · obtain ⟨hj1, hb⟩ : ∃ hj : j < lb.length, lb[j].1 = x := by rcases hh with ⟨h, _⟩ | h; exact absurd h hi1; exact h
        have ga : decide ((i : Int) < (la.length : Int)) = false := by simp; omega
        rw [ad_drop_end hi1] at hT hl
        obtain ⟨bb, eb, b0, b1⟩ := C.sb.at hj1
        have gb : decide ((j : Int) < (lb.length : Int)) = true := by simp [hj1]
        have qb1 : (0 : Int) ≤ (j : Int) := by omega
        have qb2 : (j : Int) < (lb.length : Int) := by omega
        have eb1 : decide (lb[j].1 = x) = true := by simp [hb]
        have eb2 : (lb[j].1 == x) = true := by simp [hb]
        rw [ad_drop_yes hj1 hb] at hT hl
        subst eb
        have C3 := C.p1 hN lb[j].2
        obtain ⟨r1c, r2c, r3c, r4c, r5c, r6c, r7c, r8c⟩ := C3.reads
        have c3c := C3.c3
        have c4c := C3.c4
        have C4 := C3.pj hN
        obtain ⟨r1d, r2d, r3d, r4d, r5d, r6d, r7d, r8d⟩ := C4.reads
        have c3d := C4.c3
        have c4d := C4.c4
        have J2 := hJ _ _ _ hJp (Chg.trans (Chg.put _ ⟨W.heap.size, 1, none⟩ (.int .i64 lb[j].2) (Nat.le_refl _) (by show W.heap.size < W.heap.size + 3; omega)) (Chg.put _ ⟨gj, 0, none⟩ (.int .i64 ((j : Int) + 1)) hgj.1 hgj.2))
        obtain ⟨fn, tmps, assign, body, hy, hR⟩ := hY pre _ _ _ hT J2 (by simp; omega)
        dsimp only [encs] at hy
        have HT := Lib.hid hT
        have HL := Lib.hid hl
        clear hT hl
        gi_wp2
        refine ⟨fun h => (by cases h), hR.mono ?_⟩
        rintro e W3 (⟨rfl, hJ3, hk3⟩ | ⟨rfl, hJx3⟩)
        · have C5 := C4.kps hk3 (.inr ⟨Nat.le_refl _, by omega⟩) (.inr hgi) (.inr hgj) (.inl s1) (.inl s2) (fun a ha hn => .inl (sa a ha hn)) (fun a ha hn => .inl (sb a ha hn))
          gi_wp2_with ((refine ⟨trivial, fun h => (by cases h), ?_⟩); gi_at_call 57; refine (callsIn_wide.2 C5.nxt).mono ?_; rintro e w1 ⟨rfl, m1, rfl⟩)
          go_roundw
          case rel => exact ⟨⟨_, _, _, i, (j + 1), k, by rw [List.append_assoc]; exact HT.out, by have := HL.out; omega, by omega, by omega, rfl, rfl, C5.drew _, hJ _ _ _ hJ3 (Chg.drew _ _)⟩, by have := hk3.size; simp at this ⊢; omega⟩
          case measure =>
            rw [meas_eq (C5.drew _), hM]; omega
        · gi_wp2
          refine bodyPost_ret (results_none rfl _ _ _) rfl ?_
          exact ⟨⟨_, rfl⟩, .inr ⟨_, _, by rw [List.append_assoc]; exact HT.out, hJx3⟩⟩
end Go.Proofs.Ytbohcedclnbcdaa
