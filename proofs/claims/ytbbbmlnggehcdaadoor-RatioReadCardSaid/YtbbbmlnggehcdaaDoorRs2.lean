/- The reference's Add: its magnitudes. -/
import Derived.Test.YtbbbmlnggehcdaaDoorRq
import Derived.Deep.DeepCutAuto
namespace Go.Proofs.YtbbbmlnggehcdaaDoor
open Go.ChangeShapes Go.WideShapes Go.ChangeAt Go.RowKit
set_option linter.unusedVariables false
set_option linter.unusedSimpArgs false

/-- A block of two words. -/
structure Gb where
  g : Nat
  a : Int
  b : Int
def BlkU (w : World) : List Gb → Prop
  | [] => True
  | x :: l => Has w x.g 62 #[.int .u64 x.a, .int .u64 x.b] ∧ BlkU w l
theorem BlkU.on {w w1 : World} (hb : Below w.heap.size w w1) : ∀ {l : List Gb}, BlkU w l → BlkU w1 l
  | [], _ => trivial
  | _ :: _, h => ⟨h.1.on hb, BlkU.on hb h.2⟩
theorem BlkU.lt {w : World} : ∀ {l : List Gb}, BlkU w l → ∀ x ∈ l, x.g < w.heap.size
  | [], _, x, hx => by cases hx
  | _ :: _, h, x, hx => by
    rcases List.mem_cons.1 hx with rfl | k
    · exact h.1.size_
    · exact BlkU.lt h.2 x k
theorem BlkU.far {w : World} {g : Nat} {i : Nat} {v : Value} : ∀ {l : List Gb}, BlkU w l → (∀ x ∈ l, x.g ≠ g) → BlkU (w.setCell ⟨g, i, none⟩ v) l
  | [], _, _ => trivial
  | x :: l, h, hn => ⟨h.1.apart_ (hn x List.mem_cons_self) _, BlkU.far h.2 fun y hy => hn y (List.mem_cons_of_mem _ hy)⟩
/-- The arguments, the result's block, and magnitudes. -/
def Trm (w0 w : World) (an ad bn bd : Int) (l : List Gb) : Prop := Trio w0 w an ad bn bd ∧ BlkU w l ∧ ∀ x ∈ l, x.g ≠ w0.heap.size + 1 + 1
theorem Trm.next {w0 w w1 : World} {an ad bn bd : Int} {l : List Gb} (h : Trm w0 w an ad bn bd l) (hb : Below w.heap.size w w1) : Trm w0 w1 an ad bn bd l := ⟨h.1.next hb, h.2.1.on hb, h.2.2⟩
theorem Trm.drew {w0 w : World} {an ad bn bd : Int} {l : List Gb} (h : Trm w0 w an ad bn bd l) : Trm w0 w.drew an ad bn bd l := h.next (Dr.below' ⟨1, rfl⟩)
theorem Trm.alloc {w0 w : World} {an ad bn bd : Int} {l : List Gb} (h : Trm w0 w an ad bn bd l) (o : Obj) : Trm w0 (w.alloc o) an ad bn bd l := h.next (al1 _ _)
theorem Trm.aldr {w0 w : World} {an ad bn bd : Int} {l : List Gb} (h : Trm w0 w an ad bn bd l) (o : Obj) : Trm w0 (w.alloc o).drew an ad bn bd l := (h.alloc o).drew
theorem Trm.res {w0 w : World} {an ad bn bd : Int} {l : List Gb} (h : Trm w0 w an ad bn bd l) : w0.heap.size + 1 + 1 < w.heap.size := by
  obtain ⟨⟨_, c, d, k⟩, _⟩ := h
  exact k.size_
theorem Trm.add {w0 w : World} {an ad bn bd : Int} {l : List Gb} (h : Trm w0 w an ad bn bd l) (a b : Int) : Trm w0 (w.alloc (.cells #[.int .u64 a, .int .u64 b] 62)) an ad bn bd (⟨w.heap.size, a, b⟩ :: l) :=
  ⟨(h.alloc _).1, ⟨Has.new_ _ _ _, (h.alloc _).2.1⟩, fun x hx => by
    rcases List.mem_cons.1 hx with rfl | k
    · have := h.res; simp only; omega
    · exact h.2.2 x k⟩
theorem Trm.addr {w0 w : World} {an ad bn bd : Int} {l : List Gb} (h : Trm w0 w an ad bn bd l) (a b : Int) : Trm w0 (w.alloc (.cells #[.int .u64 a, .int .u64 b] 62)).drew an ad bn bd (⟨w.heap.size, a, b⟩ :: l) := (h.add a b).drew
theorem Trm.set2 {w0 w : World} {an ad bn bd : Int} {l : List Gb} (h : Trm w0 w an ad bn bd l) (x y : Value) : Trm w0 ((w.setCell ⟨w0.heap.size + 1 + 1, 0, none⟩ x).setCell ⟨w0.heap.size + 1 + 1, 1, none⟩ y) an ad bn bd l :=
  ⟨h.1.set2 x y, (h.2.1.far h.2.2).far h.2.2, h.2.2⟩
theorem Trm.four {w0 w : World} {an ad bn bd : Int} {l : List Gb} (h : Trm w0 w an ad bn bd l) : w.cell? ⟨w0.heap.size, 0, none⟩ = some (.int .i64 an) ∧ w.cell? ⟨w0.heap.size, 1, none⟩ = some (.int .i64 ad) ∧ w.cell? ⟨w0.heap.size + 1, 0, none⟩ = some (.int .i64 bn) ∧ w.cell? ⟨w0.heap.size + 1, 1, none⟩ = some (.int .i64 bd) ∧ Trm w0 w an ad bn bd l :=
  ⟨h.1.1.cells.1, h.1.1.cells.2.1, h.1.1.cells.2.2.1, h.1.1.cells.2.2.2, h⟩
/-- The new block of a magnitude, before it is written. -/
def MidU (w0 w : World) (N : Nat) (l : List Gb) : Prop := Has w N 62 #[.int .u64 0, .int .u64 0] ∧ w0.heap.size + 1 + 1 < N ∧ ∀ x ∈ l, x.g ≠ N
theorem MidU.start {w0 W w1 : World} {an ad bn bd : Int} {l : List Gb} (h : Trm w0 W an ad bn bd l)
    (hb : Below (W.alloc (.cells #[.int .u64 0, .int .u64 0] 62)).heap.size (W.alloc (.cells #[.int .u64 0, .int .u64 0] 62)) w1) : MidU w0 w1 W.heap.size l :=
  ⟨(Has.new_ _ _ _).on hb, h.res, fun x hx => by have := h.2.1.lt x hx; omega⟩
theorem MidU.startd {w0 W w1 : World} {an ad bn bd : Int} {l : List Gb} (h : Trm w0 W an ad bn bd l)
    (hb : Below (W.alloc (.cells #[.int .u64 0, .int .u64 0] 62)).drew.heap.size (W.alloc (.cells #[.int .u64 0, .int .u64 0] 62)).drew w1) : MidU w0 w1 W.heap.size l :=
  ⟨(Has.drew_ (Has.new_ _ _ _)).on hb, h.res, fun x hx => by have := h.2.1.lt x hx; omega⟩
theorem Trm.store {w0 w : World} {an ad bn bd : Int} {l : List Gb} {N : Nat} (h : Trm w0 w an ad bn bd l) (m : MidU w0 w N l) (a b : Int) :
    Trm w0 ((w.setCell ⟨N, 0, none⟩ (.int .u64 a)).setCell ⟨N, 1, none⟩ (.int .u64 b)) an ad bn bd (⟨N, a, b⟩ :: l) := by
  obtain ⟨⟨⟨h1, h2, h3, h4⟩, c, d, h5⟩, h6, h7⟩ := h
  obtain ⟨m1, m2, m3⟩ := m
  refine ⟨⟨⟨(h1.apart_ (by simp; omega) _).apart_ (by simp; omega) _, (h2.apart_ (by simp; omega) _).apart_ (by simp; omega) _, (h3.setCell (by simp; omega) _).setCell (by simp; omega) _, by simp; omega⟩, c, d, (h5.apart_ (by simp; omega) _).apart_ (by simp; omega) _⟩, ⟨(m1.put_ 0 _).put_ 1 _, (h6.far m3).far m3⟩, fun x hx => ?_⟩
  rcases List.mem_cons.1 hx with rfl | k
  · simp only; omega
  · exact h7 x k
theorem Trm.off {w0 w : World} {an ad bn bd : Int} {l : List Gb} {x : Gb} (h : Trm w0 w an ad bn bd (x :: l)) : Trm w0 w an ad bn bd l := ⟨h.1, h.2.1.2, fun y hy => h.2.2 y (List.mem_cons_of_mem _ hy)⟩
theorem trm_start (w : World) (an ad bn bd : Int) : Trm w (((w.alloc (.cells #[.int .i64 an, .int .i64 ad] 23)).alloc (.cells #[.int .i64 bn, .int .i64 bd] 23)).alloc (.cells #[.int .i64 0, .int .i64 0] 23)) an ad bn bd [] :=
  ⟨trio_start w an ad bn bd, trivial, fun x hx => by cases hx⟩
theorem MidU.cells {w0 w : World} {N : Nat} {l : List Gb} (m : MidU w0 w N l) : w.cell? ⟨N, 0, none⟩ = some (.int .u64 0) ∧ w.cell? ⟨N, 1, none⟩ = some (.int .u64 0) ∧ w.frozen? ⟨N, 0, none⟩ = false ∧ w.frozen? ⟨N, 1, none⟩ = false := Has.two m.1
theorem Trm.ten {w0 w : World} {an ad bn bd : Int} {x y z : Gb} (h : Trm w0 w an ad bn bd [z, y, x]) : w.cell? ⟨w0.heap.size, 0, none⟩ = some (.int .i64 an) ∧ w.cell? ⟨w0.heap.size, 1, none⟩ = some (.int .i64 ad) ∧ w.cell? ⟨w0.heap.size + 1, 0, none⟩ = some (.int .i64 bn) ∧ w.cell? ⟨w0.heap.size + 1, 1, none⟩ = some (.int .i64 bd) ∧ w.cell? ⟨x.g, 0, none⟩ = some (.int .u64 x.a) ∧ w.cell? ⟨x.g, 1, none⟩ = some (.int .u64 x.b) ∧ w.cell? ⟨y.g, 0, none⟩ = some (.int .u64 y.a) ∧ w.cell? ⟨y.g, 1, none⟩ = some (.int .u64 y.b) ∧ w.cell? ⟨z.g, 0, none⟩ = some (.int .u64 z.a) ∧ w.cell? ⟨z.g, 1, none⟩ = some (.int .u64 z.b) ∧ Trm w0 w an ad bn bd [z, y, x] :=
  ⟨h.1.1.cells.1, h.1.1.cells.2.1, h.1.1.cells.2.2.1, h.1.1.cells.2.2.2, h.2.1.2.2.1.read 0, h.2.1.2.2.1.read 1, h.2.1.2.1.read 0, h.2.1.2.1.read 1, h.2.1.1.read 0, h.2.1.1.read 1, h⟩

set_option maxRecDepth 100000 in
set_option maxHeartbeats 8000000 in
theorem radd_same (an ad bn bd : Int) (w : World) (h1 l1 h2 l2 h3 l3 hp lp z1 z2 z3 z4 x q e0 : Int)
    (s1 : ∀ W, Calls Tryd.prog 44 #[.int .i64 an] W fun e w' => e = .returned (.int .u64 z1) ∧ W = w') (s2 : ∀ W, Calls Tryd.prog 44 #[.int .i64 ad] W fun e w' => e = .returned (.int .u64 z2) ∧ W = w')
    (s3 : ∀ W, Calls Tryd.prog 44 #[.int .i64 bn] W fun e w' => e = .returned (.int .u64 z3) ∧ W = w') (s4 : ∀ W, Calls Tryd.prog 44 #[.int .i64 bd] W fun e w' => e = .returned (.int .u64 z4) ∧ W = w')
    (m1 : ∀ W, Calls Tryd.prog 53 #[.int .u64 z1, .int .u64 z4] W fun e w' => e = .returned (.agg #[.int .u64 h1, .int .u64 l1]) ∧ Below W.heap.size W w')
    (m2 : ∀ W, Calls Tryd.prog 53 #[.int .u64 z3, .int .u64 z2] W fun e w' => e = .returned (.agg #[.int .u64 h2, .int .u64 l2]) ∧ Below W.heap.size W w')
    (m3 : ∀ W, Calls Tryd.prog 53 #[.int .u64 z2, .int .u64 z4] W fun e w' => e = .returned (.agg #[.int .u64 h3, .int .u64 l3]) ∧ Below W.heap.size W w')
    (hs : (decide (an < 0) == decide (bn < 0)) = true) (hP : ∀ W, Calls Tryd.prog 54 #[.agg #[.int .u64 h1, .int .u64 l1], .agg #[.int .u64 h2, .int .u64 l2]] W fun e w' => e = .returned (.agg #[.int .u64 hp, .int .u64 lp]) ∧ Below W.heap.size W w')
    (hM : ∀ W, Calls Tryd.prog 43 #[.agg #[.int .u64 hp, .int .u64 lp], .bool (decide (an < 0)), .agg #[.int .u64 h3, .int .u64 l3]] W fun e w' => e = .returned (.tuple #[.agg #[.int .i64 x, .int .i64 q], .int .i64 e0]) ∧ Below W.heap.size W w') :
    Calls Tryd.prog 26 #[.agg #[.int .i64 an, .int .i64 ad], .agg #[.int .i64 bn, .int .i64 bd]] w fun e w' => e = .returned (.tuple #[.agg #[.int .i64 x, .int .i64 q], .int .i64 e0]) ∧ Below w.heap.size w w' := by
  have E0 := trm_start w an ad bn bd
  go_enter Tryd.func26, Tryd.ntmps26
  go_wp2_with fail
  generalize ((w.alloc (.cells #[.int .i64 an, .int .i64 ad] 23)).alloc (.cells #[.int .i64 bn, .int .i64 bd] 23)).alloc (.cells #[.int .i64 0, .int .i64 0] 23) = W0 at *
  go_upto_region 1 with fail
  go_cut [6] (fun s wx => ∃ g : Nat, s = .pointer (some ⟨g, 0, none⟩) ∧ Trm w wx an ad bn bd (⟨g, h1, l1⟩ :: []))
  case first =>
    go_region_held3 (fun w' => w'.cell? ⟨w.heap.size, 0, none⟩ = some (.int .i64 an) ∧ w'.cell? ⟨w.heap.size, 1, none⟩ = some (.int .i64 ad) ∧ w'.cell? ⟨w.heap.size + 1, 0, none⟩ = some (.int .i64 bn) ∧ w'.cell? ⟨w.heap.size + 1, 1, none⟩ = some (.int .i64 bd) ∧ Trm w w' an ad bn bd [])
      (first | with_reducible exact Trm.four (Trm.off (Trm.store QM M _ _)) | with_reducible exact Trm.four (Trm.aldr QM _) | with_reducible exact Trm.four (Trm.alloc QM _) | with_reducible exact Trm.four QM | with_reducible exact Trm.four (Trm.drew E0) | with_reducible exact Trm.four (Trm.aldr E0 _) | with_reducible exact Trm.four (Trm.alloc E0 _) | with_reducible (go_split_ands; assumption) | go_keep)
      (first | (go_at_call 44; first | ((with_reducible refine (s1 _).mono ?_); rintro e w1 ⟨rfl, rfl⟩) | ((with_reducible refine (s4 _).mono ?_); rintro e w1 ⟨rfl, rfl⟩)) | (go_at_call 53; (with_reducible refine (m1 _).mono ?_); rintro e w1 ⟨rfl, hb⟩; have QM : Trm w w1 an ad bn bd [] := (by with_reducible exact Trm.next (by go_split_ands; assumption) hb); (first | (have M : MidU w w1 _ [] := (by with_reducible exact MidU.start E0 hb); obtain ⟨m0, m1, m2, m3⟩ := M.cells) | (have M : MidU w w1 _ [] := (by with_reducible exact MidU.startd E0 hb); obtain ⟨m0, m1, m2, m3⟩ := M.cells) | skip)))
    all_goals (rename_i hH; clear hH)
    all_goals (go_wp2_with fail)
    all_goals go_meet
    all_goals first | exact ⟨_, rfl, Trm.store QM M _ _⟩ | exact ⟨_, rfl, Trm.addr QM _ _⟩ | exact ⟨_, rfl, Trm.add QM _ _⟩
  case rest =>
  obtain ⟨g1, rfl, AE⟩ := hcut
  clear E0
  go_upto_region 2 with fail
  go_cut [7] (fun s wx => ∃ g : Nat, s = .pointer (some ⟨g, 0, none⟩) ∧ Trm w wx an ad bn bd (⟨g, h2, l2⟩ :: [⟨g1, h1, l1⟩]))
  case first =>
    go_region_held3 (fun w' => w'.cell? ⟨w.heap.size, 0, none⟩ = some (.int .i64 an) ∧ w'.cell? ⟨w.heap.size, 1, none⟩ = some (.int .i64 ad) ∧ w'.cell? ⟨w.heap.size + 1, 0, none⟩ = some (.int .i64 bn) ∧ w'.cell? ⟨w.heap.size + 1, 1, none⟩ = some (.int .i64 bd) ∧ Trm w w' an ad bn bd [⟨g1, h1, l1⟩])
      (first | with_reducible exact Trm.four (Trm.off (Trm.store QM M _ _)) | with_reducible exact Trm.four (Trm.aldr QM _) | with_reducible exact Trm.four (Trm.alloc QM _) | with_reducible exact Trm.four QM | with_reducible exact Trm.four (Trm.drew AE) | with_reducible exact Trm.four (Trm.aldr AE _) | with_reducible exact Trm.four (Trm.alloc AE _) | with_reducible (go_split_ands; assumption) | go_keep)
      (first | (go_at_call 44; first | ((with_reducible refine (s3 _).mono ?_); rintro e w1 ⟨rfl, rfl⟩) | ((with_reducible refine (s2 _).mono ?_); rintro e w1 ⟨rfl, rfl⟩)) | (go_at_call 53; (with_reducible refine (m2 _).mono ?_); rintro e w1 ⟨rfl, hb⟩; have QM : Trm w w1 an ad bn bd [⟨g1, h1, l1⟩] := (by with_reducible exact Trm.next (by go_split_ands; assumption) hb); (first | (have M : MidU w w1 _ [⟨g1, h1, l1⟩] := (by with_reducible exact MidU.start AE hb); obtain ⟨m0, m1, m2, m3⟩ := M.cells) | (have M : MidU w w1 _ [⟨g1, h1, l1⟩] := (by with_reducible exact MidU.startd AE hb); obtain ⟨m0, m1, m2, m3⟩ := M.cells) | skip)))
    all_goals (rename_i hH; clear hH)
    all_goals (go_wp2_with fail)
    all_goals go_meet
    all_goals first | exact ⟨_, rfl, Trm.store QM M _ _⟩ | exact ⟨_, rfl, Trm.addr QM _ _⟩ | exact ⟨_, rfl, Trm.add QM _ _⟩
  case rest =>
  obtain ⟨g2, rfl, BE⟩ := hcut
  clear AE
  go_upto_region 3 with fail
  go_cut [8] (fun s wx => ∃ g : Nat, s = .pointer (some ⟨g, 0, none⟩) ∧ Trm w wx an ad bn bd (⟨g, h3, l3⟩ :: [⟨g2, h2, l2⟩, ⟨g1, h1, l1⟩]))
  case first =>
    go_region_held3 (fun w' => w'.cell? ⟨w.heap.size, 0, none⟩ = some (.int .i64 an) ∧ w'.cell? ⟨w.heap.size, 1, none⟩ = some (.int .i64 ad) ∧ w'.cell? ⟨w.heap.size + 1, 0, none⟩ = some (.int .i64 bn) ∧ w'.cell? ⟨w.heap.size + 1, 1, none⟩ = some (.int .i64 bd) ∧ Trm w w' an ad bn bd [⟨g2, h2, l2⟩, ⟨g1, h1, l1⟩])
      (first | with_reducible exact Trm.four (Trm.off (Trm.store QM M _ _)) | with_reducible exact Trm.four (Trm.aldr QM _) | with_reducible exact Trm.four (Trm.alloc QM _) | with_reducible exact Trm.four QM | with_reducible exact Trm.four (Trm.drew BE) | with_reducible exact Trm.four (Trm.aldr BE _) | with_reducible exact Trm.four (Trm.alloc BE _) | with_reducible (go_split_ands; assumption) | go_keep)
      (first | (go_at_call 44; first | ((with_reducible refine (s2 _).mono ?_); rintro e w1 ⟨rfl, rfl⟩) | ((with_reducible refine (s4 _).mono ?_); rintro e w1 ⟨rfl, rfl⟩)) | (go_at_call 53; (with_reducible refine (m3 _).mono ?_); rintro e w1 ⟨rfl, hb⟩; have QM : Trm w w1 an ad bn bd [⟨g2, h2, l2⟩, ⟨g1, h1, l1⟩] := (by with_reducible exact Trm.next (by go_split_ands; assumption) hb); (first | (have M : MidU w w1 _ [⟨g2, h2, l2⟩, ⟨g1, h1, l1⟩] := (by with_reducible exact MidU.start BE hb); obtain ⟨m0, m1, m2, m3⟩ := M.cells) | (have M : MidU w w1 _ [⟨g2, h2, l2⟩, ⟨g1, h1, l1⟩] := (by with_reducible exact MidU.startd BE hb); obtain ⟨m0, m1, m2, m3⟩ := M.cells) | skip)))
    all_goals (rename_i hH; clear hH)
    all_goals (go_wp2_with fail)
    all_goals go_meet
    all_goals first | exact ⟨_, rfl, Trm.store QM M _ _⟩ | exact ⟨_, rfl, Trm.addr QM _ _⟩ | exact ⟨_, rfl, Trm.add QM _ _⟩
  case rest =>
  obtain ⟨g3, rfl, CE⟩ := hcut
  clear BE
  have K := CE.ten
  go_wp2_with fail
  go_region_held3 (fun w' => w'.cell? ⟨w.heap.size, 0, none⟩ = some (.int .i64 an) ∧ w'.cell? ⟨w.heap.size, 1, none⟩ = some (.int .i64 ad) ∧ w'.cell? ⟨w.heap.size + 1, 0, none⟩ = some (.int .i64 bn) ∧ w'.cell? ⟨w.heap.size + 1, 1, none⟩ = some (.int .i64 bd) ∧ w'.cell? ⟨g1, 0, none⟩ = some (.int .u64 h1) ∧ w'.cell? ⟨g1, 1, none⟩ = some (.int .u64 l1) ∧ w'.cell? ⟨g2, 0, none⟩ = some (.int .u64 h2) ∧ w'.cell? ⟨g2, 1, none⟩ = some (.int .u64 l2) ∧ w'.cell? ⟨g3, 0, none⟩ = some (.int .u64 h3) ∧ w'.cell? ⟨g3, 1, none⟩ = some (.int .u64 l3) ∧ Trm w w' an ad bn bd [⟨g3, h3, l3⟩, ⟨g2, h2, l2⟩, ⟨g1, h1, l1⟩])
    (first | with_reducible exact Trm.ten (Trm.set2 Q0 _ _) | with_reducible exact Trm.ten (Trm.drew CE) | with_reducible exact Trm.ten (Trm.next (by go_split_ands; assumption) hb) | with_reducible (go_split_ands; assumption) | go_keep)
    (first | (go_at_call 54; (with_reducible refine (hP _).mono ?_); rintro e w1 ⟨rfl, hb⟩) | (go_at_call 43; (with_reducible refine (hM _).mono ?_); rintro e w5 ⟨rfl, hb⟩; have Q0 : Trm w w5 an ad bn bd [⟨g3, h3, l3⟩, ⟨g2, h2, l2⟩, ⟨g1, h1, l1⟩] := (by with_reducible exact Trm.next (by go_split_ands; assumption) hb); obtain ⟨c, d, QQ⟩ := Trio.kept Q0.1))
  all_goals rename_i hH
  all_goals clear hH
  all_goals go_wp2
  all_goals refine bodyPost_ret (v := .tuple #[.agg #[.int .i64 x, .int .i64 q], .int .i64 e0]) (by simp [results, Tryd.results26, go_sem, QQ]) rfl ⟨rfl, ?_⟩
  all_goals exact (Q0.1.1.2.2.1.setCell (by simp; omega) _).setCell (by simp; omega) _

set_option maxRecDepth 100000 in
set_option maxHeartbeats 8000000 in
theorem radd_less (an ad bn bd : Int) (w : World) (h1 l1 h2 l2 h3 l3 hp lp z1 z2 z3 z4 x q e0 : Int)
    (s1 : ∀ W, Calls Tryd.prog 44 #[.int .i64 an] W fun e w' => e = .returned (.int .u64 z1) ∧ W = w') (s2 : ∀ W, Calls Tryd.prog 44 #[.int .i64 ad] W fun e w' => e = .returned (.int .u64 z2) ∧ W = w')
    (s3 : ∀ W, Calls Tryd.prog 44 #[.int .i64 bn] W fun e w' => e = .returned (.int .u64 z3) ∧ W = w') (s4 : ∀ W, Calls Tryd.prog 44 #[.int .i64 bd] W fun e w' => e = .returned (.int .u64 z4) ∧ W = w')
    (m1 : ∀ W, Calls Tryd.prog 53 #[.int .u64 z1, .int .u64 z4] W fun e w' => e = .returned (.agg #[.int .u64 h1, .int .u64 l1]) ∧ Below W.heap.size W w')
    (m2 : ∀ W, Calls Tryd.prog 53 #[.int .u64 z3, .int .u64 z2] W fun e w' => e = .returned (.agg #[.int .u64 h2, .int .u64 l2]) ∧ Below W.heap.size W w')
    (m3 : ∀ W, Calls Tryd.prog 53 #[.int .u64 z2, .int .u64 z4] W fun e w' => e = .returned (.agg #[.int .u64 h3, .int .u64 l3]) ∧ Below W.heap.size W w')
    (hs : (decide (an < 0) == decide (bn < 0)) = false) (hL : ∀ W, Calls Tryd.prog 55 #[.agg #[.int .u64 h1, .int .u64 l1], .agg #[.int .u64 h2, .int .u64 l2]] W fun e w' => e = .returned (.bool true) ∧ Below W.heap.size W w') (hP : ∀ W, Calls Tryd.prog 56 #[.agg #[.int .u64 h2, .int .u64 l2], .agg #[.int .u64 h1, .int .u64 l1]] W fun e w' => e = .returned (.agg #[.int .u64 hp, .int .u64 lp]) ∧ Below W.heap.size W w')
    (hM : ∀ W, Calls Tryd.prog 43 #[.agg #[.int .u64 hp, .int .u64 lp], .bool (decide (bn < 0)), .agg #[.int .u64 h3, .int .u64 l3]] W fun e w' => e = .returned (.tuple #[.agg #[.int .i64 x, .int .i64 q], .int .i64 e0]) ∧ Below W.heap.size W w') :
    Calls Tryd.prog 26 #[.agg #[.int .i64 an, .int .i64 ad], .agg #[.int .i64 bn, .int .i64 bd]] w fun e w' => e = .returned (.tuple #[.agg #[.int .i64 x, .int .i64 q], .int .i64 e0]) ∧ Below w.heap.size w w' := by
  have E0 := trm_start w an ad bn bd
  go_enter Tryd.func26, Tryd.ntmps26
  go_wp2_with fail
  generalize ((w.alloc (.cells #[.int .i64 an, .int .i64 ad] 23)).alloc (.cells #[.int .i64 bn, .int .i64 bd] 23)).alloc (.cells #[.int .i64 0, .int .i64 0] 23) = W0 at *
  go_upto_region 1 with fail
  go_cut [6] (fun s wx => ∃ g : Nat, s = .pointer (some ⟨g, 0, none⟩) ∧ Trm w wx an ad bn bd (⟨g, h1, l1⟩ :: []))
  case first =>
    go_region_held3 (fun w' => w'.cell? ⟨w.heap.size, 0, none⟩ = some (.int .i64 an) ∧ w'.cell? ⟨w.heap.size, 1, none⟩ = some (.int .i64 ad) ∧ w'.cell? ⟨w.heap.size + 1, 0, none⟩ = some (.int .i64 bn) ∧ w'.cell? ⟨w.heap.size + 1, 1, none⟩ = some (.int .i64 bd) ∧ Trm w w' an ad bn bd [])
      (first | with_reducible exact Trm.four (Trm.off (Trm.store QM M _ _)) | with_reducible exact Trm.four (Trm.aldr QM _) | with_reducible exact Trm.four (Trm.alloc QM _) | with_reducible exact Trm.four QM | with_reducible exact Trm.four (Trm.drew E0) | with_reducible exact Trm.four (Trm.aldr E0 _) | with_reducible exact Trm.four (Trm.alloc E0 _) | with_reducible (go_split_ands; assumption) | go_keep)
      (first | (go_at_call 44; first | ((with_reducible refine (s1 _).mono ?_); rintro e w1 ⟨rfl, rfl⟩) | ((with_reducible refine (s4 _).mono ?_); rintro e w1 ⟨rfl, rfl⟩)) | (go_at_call 53; (with_reducible refine (m1 _).mono ?_); rintro e w1 ⟨rfl, hb⟩; have QM : Trm w w1 an ad bn bd [] := (by with_reducible exact Trm.next (by go_split_ands; assumption) hb); (first | (have M : MidU w w1 _ [] := (by with_reducible exact MidU.start E0 hb); obtain ⟨m0, m1, m2, m3⟩ := M.cells) | (have M : MidU w w1 _ [] := (by with_reducible exact MidU.startd E0 hb); obtain ⟨m0, m1, m2, m3⟩ := M.cells) | skip)))
    all_goals (rename_i hH; clear hH)
    all_goals (go_wp2_with fail)
    all_goals go_meet
    all_goals first | exact ⟨_, rfl, Trm.store QM M _ _⟩ | exact ⟨_, rfl, Trm.addr QM _ _⟩ | exact ⟨_, rfl, Trm.add QM _ _⟩
  case rest =>
  obtain ⟨g1, rfl, AE⟩ := hcut
  clear E0
  go_upto_region 2 with fail
  go_cut [7] (fun s wx => ∃ g : Nat, s = .pointer (some ⟨g, 0, none⟩) ∧ Trm w wx an ad bn bd (⟨g, h2, l2⟩ :: [⟨g1, h1, l1⟩]))
  case first =>
    go_region_held3 (fun w' => w'.cell? ⟨w.heap.size, 0, none⟩ = some (.int .i64 an) ∧ w'.cell? ⟨w.heap.size, 1, none⟩ = some (.int .i64 ad) ∧ w'.cell? ⟨w.heap.size + 1, 0, none⟩ = some (.int .i64 bn) ∧ w'.cell? ⟨w.heap.size + 1, 1, none⟩ = some (.int .i64 bd) ∧ Trm w w' an ad bn bd [⟨g1, h1, l1⟩])
      (first | with_reducible exact Trm.four (Trm.off (Trm.store QM M _ _)) | with_reducible exact Trm.four (Trm.aldr QM _) | with_reducible exact Trm.four (Trm.alloc QM _) | with_reducible exact Trm.four QM | with_reducible exact Trm.four (Trm.drew AE) | with_reducible exact Trm.four (Trm.aldr AE _) | with_reducible exact Trm.four (Trm.alloc AE _) | with_reducible (go_split_ands; assumption) | go_keep)
      (first | (go_at_call 44; first | ((with_reducible refine (s3 _).mono ?_); rintro e w1 ⟨rfl, rfl⟩) | ((with_reducible refine (s2 _).mono ?_); rintro e w1 ⟨rfl, rfl⟩)) | (go_at_call 53; (with_reducible refine (m2 _).mono ?_); rintro e w1 ⟨rfl, hb⟩; have QM : Trm w w1 an ad bn bd [⟨g1, h1, l1⟩] := (by with_reducible exact Trm.next (by go_split_ands; assumption) hb); (first | (have M : MidU w w1 _ [⟨g1, h1, l1⟩] := (by with_reducible exact MidU.start AE hb); obtain ⟨m0, m1, m2, m3⟩ := M.cells) | (have M : MidU w w1 _ [⟨g1, h1, l1⟩] := (by with_reducible exact MidU.startd AE hb); obtain ⟨m0, m1, m2, m3⟩ := M.cells) | skip)))
    all_goals (rename_i hH; clear hH)
    all_goals (go_wp2_with fail)
    all_goals go_meet
    all_goals first | exact ⟨_, rfl, Trm.store QM M _ _⟩ | exact ⟨_, rfl, Trm.addr QM _ _⟩ | exact ⟨_, rfl, Trm.add QM _ _⟩
  case rest =>
  obtain ⟨g2, rfl, BE⟩ := hcut
  clear AE
  go_upto_region 3 with fail
  go_cut [8] (fun s wx => ∃ g : Nat, s = .pointer (some ⟨g, 0, none⟩) ∧ Trm w wx an ad bn bd (⟨g, h3, l3⟩ :: [⟨g2, h2, l2⟩, ⟨g1, h1, l1⟩]))
  case first =>
    go_region_held3 (fun w' => w'.cell? ⟨w.heap.size, 0, none⟩ = some (.int .i64 an) ∧ w'.cell? ⟨w.heap.size, 1, none⟩ = some (.int .i64 ad) ∧ w'.cell? ⟨w.heap.size + 1, 0, none⟩ = some (.int .i64 bn) ∧ w'.cell? ⟨w.heap.size + 1, 1, none⟩ = some (.int .i64 bd) ∧ Trm w w' an ad bn bd [⟨g2, h2, l2⟩, ⟨g1, h1, l1⟩])
      (first | with_reducible exact Trm.four (Trm.off (Trm.store QM M _ _)) | with_reducible exact Trm.four (Trm.aldr QM _) | with_reducible exact Trm.four (Trm.alloc QM _) | with_reducible exact Trm.four QM | with_reducible exact Trm.four (Trm.drew BE) | with_reducible exact Trm.four (Trm.aldr BE _) | with_reducible exact Trm.four (Trm.alloc BE _) | with_reducible (go_split_ands; assumption) | go_keep)
      (first | (go_at_call 44; first | ((with_reducible refine (s2 _).mono ?_); rintro e w1 ⟨rfl, rfl⟩) | ((with_reducible refine (s4 _).mono ?_); rintro e w1 ⟨rfl, rfl⟩)) | (go_at_call 53; (with_reducible refine (m3 _).mono ?_); rintro e w1 ⟨rfl, hb⟩; have QM : Trm w w1 an ad bn bd [⟨g2, h2, l2⟩, ⟨g1, h1, l1⟩] := (by with_reducible exact Trm.next (by go_split_ands; assumption) hb); (first | (have M : MidU w w1 _ [⟨g2, h2, l2⟩, ⟨g1, h1, l1⟩] := (by with_reducible exact MidU.start BE hb); obtain ⟨m0, m1, m2, m3⟩ := M.cells) | (have M : MidU w w1 _ [⟨g2, h2, l2⟩, ⟨g1, h1, l1⟩] := (by with_reducible exact MidU.startd BE hb); obtain ⟨m0, m1, m2, m3⟩ := M.cells) | skip)))
    all_goals (rename_i hH; clear hH)
    all_goals (go_wp2_with fail)
    all_goals go_meet
    all_goals first | exact ⟨_, rfl, Trm.store QM M _ _⟩ | exact ⟨_, rfl, Trm.addr QM _ _⟩ | exact ⟨_, rfl, Trm.add QM _ _⟩
  case rest =>
  obtain ⟨g3, rfl, CE⟩ := hcut
  clear BE
  have K := CE.ten
  go_wp2_with (go_at_call 55; (with_reducible refine (hL _).mono ?_); rintro e w1 ⟨rfl, hb⟩; replace CE := CE.next hb; replace K := CE.ten; clear hb)
  go_region_held3 (fun w' => w'.cell? ⟨w.heap.size, 0, none⟩ = some (.int .i64 an) ∧ w'.cell? ⟨w.heap.size, 1, none⟩ = some (.int .i64 ad) ∧ w'.cell? ⟨w.heap.size + 1, 0, none⟩ = some (.int .i64 bn) ∧ w'.cell? ⟨w.heap.size + 1, 1, none⟩ = some (.int .i64 bd) ∧ w'.cell? ⟨g1, 0, none⟩ = some (.int .u64 h1) ∧ w'.cell? ⟨g1, 1, none⟩ = some (.int .u64 l1) ∧ w'.cell? ⟨g2, 0, none⟩ = some (.int .u64 h2) ∧ w'.cell? ⟨g2, 1, none⟩ = some (.int .u64 l2) ∧ w'.cell? ⟨g3, 0, none⟩ = some (.int .u64 h3) ∧ w'.cell? ⟨g3, 1, none⟩ = some (.int .u64 l3) ∧ Trm w w' an ad bn bd [⟨g3, h3, l3⟩, ⟨g2, h2, l2⟩, ⟨g1, h1, l1⟩])
    (first | with_reducible exact Trm.ten (Trm.set2 Q0 _ _) | with_reducible exact Trm.ten (Trm.drew CE) | with_reducible exact Trm.ten (Trm.next (by go_split_ands; assumption) hb) | with_reducible (go_split_ands; assumption) | go_keep)
    (first | (go_at_call 56; (with_reducible refine (hP _).mono ?_); rintro e w1 ⟨rfl, hb⟩) | (go_at_call 43; (with_reducible refine (hM _).mono ?_); rintro e w5 ⟨rfl, hb⟩; have Q0 : Trm w w5 an ad bn bd [⟨g3, h3, l3⟩, ⟨g2, h2, l2⟩, ⟨g1, h1, l1⟩] := (by with_reducible exact Trm.next (by go_split_ands; assumption) hb); obtain ⟨c, d, QQ⟩ := Trio.kept Q0.1))
  all_goals rename_i hH
  all_goals clear hH
  all_goals go_wp2
  all_goals refine bodyPost_ret (v := .tuple #[.agg #[.int .i64 x, .int .i64 q], .int .i64 e0]) (by simp [results, Tryd.results26, go_sem, QQ]) rfl ⟨rfl, ?_⟩
  all_goals exact (Q0.1.1.2.2.1.setCell (by simp; omega) _).setCell (by simp; omega) _

set_option maxRecDepth 100000 in
set_option maxHeartbeats 8000000 in
theorem radd_more (an ad bn bd : Int) (w : World) (h1 l1 h2 l2 h3 l3 hp lp z1 z2 z3 z4 x q e0 : Int)
    (s1 : ∀ W, Calls Tryd.prog 44 #[.int .i64 an] W fun e w' => e = .returned (.int .u64 z1) ∧ W = w') (s2 : ∀ W, Calls Tryd.prog 44 #[.int .i64 ad] W fun e w' => e = .returned (.int .u64 z2) ∧ W = w')
    (s3 : ∀ W, Calls Tryd.prog 44 #[.int .i64 bn] W fun e w' => e = .returned (.int .u64 z3) ∧ W = w') (s4 : ∀ W, Calls Tryd.prog 44 #[.int .i64 bd] W fun e w' => e = .returned (.int .u64 z4) ∧ W = w')
    (m1 : ∀ W, Calls Tryd.prog 53 #[.int .u64 z1, .int .u64 z4] W fun e w' => e = .returned (.agg #[.int .u64 h1, .int .u64 l1]) ∧ Below W.heap.size W w')
    (m2 : ∀ W, Calls Tryd.prog 53 #[.int .u64 z3, .int .u64 z2] W fun e w' => e = .returned (.agg #[.int .u64 h2, .int .u64 l2]) ∧ Below W.heap.size W w')
    (m3 : ∀ W, Calls Tryd.prog 53 #[.int .u64 z2, .int .u64 z4] W fun e w' => e = .returned (.agg #[.int .u64 h3, .int .u64 l3]) ∧ Below W.heap.size W w')
    (hs : (decide (an < 0) == decide (bn < 0)) = false) (hL : ∀ W, Calls Tryd.prog 55 #[.agg #[.int .u64 h1, .int .u64 l1], .agg #[.int .u64 h2, .int .u64 l2]] W fun e w' => e = .returned (.bool false) ∧ Below W.heap.size W w') (hP : ∀ W, Calls Tryd.prog 56 #[.agg #[.int .u64 h1, .int .u64 l1], .agg #[.int .u64 h2, .int .u64 l2]] W fun e w' => e = .returned (.agg #[.int .u64 hp, .int .u64 lp]) ∧ Below W.heap.size W w')
    (hM : ∀ W, Calls Tryd.prog 43 #[.agg #[.int .u64 hp, .int .u64 lp], .bool (decide (an < 0)), .agg #[.int .u64 h3, .int .u64 l3]] W fun e w' => e = .returned (.tuple #[.agg #[.int .i64 x, .int .i64 q], .int .i64 e0]) ∧ Below W.heap.size W w') :
    Calls Tryd.prog 26 #[.agg #[.int .i64 an, .int .i64 ad], .agg #[.int .i64 bn, .int .i64 bd]] w fun e w' => e = .returned (.tuple #[.agg #[.int .i64 x, .int .i64 q], .int .i64 e0]) ∧ Below w.heap.size w w' := by
  have E0 := trm_start w an ad bn bd
  go_enter Tryd.func26, Tryd.ntmps26
  go_wp2_with fail
  generalize ((w.alloc (.cells #[.int .i64 an, .int .i64 ad] 23)).alloc (.cells #[.int .i64 bn, .int .i64 bd] 23)).alloc (.cells #[.int .i64 0, .int .i64 0] 23) = W0 at *
  go_upto_region 1 with fail
  go_cut [6] (fun s wx => ∃ g : Nat, s = .pointer (some ⟨g, 0, none⟩) ∧ Trm w wx an ad bn bd (⟨g, h1, l1⟩ :: []))
  case first =>
    go_region_held3 (fun w' => w'.cell? ⟨w.heap.size, 0, none⟩ = some (.int .i64 an) ∧ w'.cell? ⟨w.heap.size, 1, none⟩ = some (.int .i64 ad) ∧ w'.cell? ⟨w.heap.size + 1, 0, none⟩ = some (.int .i64 bn) ∧ w'.cell? ⟨w.heap.size + 1, 1, none⟩ = some (.int .i64 bd) ∧ Trm w w' an ad bn bd [])
      (first | with_reducible exact Trm.four (Trm.off (Trm.store QM M _ _)) | with_reducible exact Trm.four (Trm.aldr QM _) | with_reducible exact Trm.four (Trm.alloc QM _) | with_reducible exact Trm.four QM | with_reducible exact Trm.four (Trm.drew E0) | with_reducible exact Trm.four (Trm.aldr E0 _) | with_reducible exact Trm.four (Trm.alloc E0 _) | with_reducible (go_split_ands; assumption) | go_keep)
      (first | (go_at_call 44; first | ((with_reducible refine (s1 _).mono ?_); rintro e w1 ⟨rfl, rfl⟩) | ((with_reducible refine (s4 _).mono ?_); rintro e w1 ⟨rfl, rfl⟩)) | (go_at_call 53; (with_reducible refine (m1 _).mono ?_); rintro e w1 ⟨rfl, hb⟩; have QM : Trm w w1 an ad bn bd [] := (by with_reducible exact Trm.next (by go_split_ands; assumption) hb); (first | (have M : MidU w w1 _ [] := (by with_reducible exact MidU.start E0 hb); obtain ⟨m0, m1, m2, m3⟩ := M.cells) | (have M : MidU w w1 _ [] := (by with_reducible exact MidU.startd E0 hb); obtain ⟨m0, m1, m2, m3⟩ := M.cells) | skip)))
    all_goals (rename_i hH; clear hH)
    all_goals (go_wp2_with fail)
    all_goals go_meet
    all_goals first | exact ⟨_, rfl, Trm.store QM M _ _⟩ | exact ⟨_, rfl, Trm.addr QM _ _⟩ | exact ⟨_, rfl, Trm.add QM _ _⟩
  case rest =>
  obtain ⟨g1, rfl, AE⟩ := hcut
  clear E0
  go_upto_region 2 with fail
  go_cut [7] (fun s wx => ∃ g : Nat, s = .pointer (some ⟨g, 0, none⟩) ∧ Trm w wx an ad bn bd (⟨g, h2, l2⟩ :: [⟨g1, h1, l1⟩]))
  case first =>
    go_region_held3 (fun w' => w'.cell? ⟨w.heap.size, 0, none⟩ = some (.int .i64 an) ∧ w'.cell? ⟨w.heap.size, 1, none⟩ = some (.int .i64 ad) ∧ w'.cell? ⟨w.heap.size + 1, 0, none⟩ = some (.int .i64 bn) ∧ w'.cell? ⟨w.heap.size + 1, 1, none⟩ = some (.int .i64 bd) ∧ Trm w w' an ad bn bd [⟨g1, h1, l1⟩])
      (first | with_reducible exact Trm.four (Trm.off (Trm.store QM M _ _)) | with_reducible exact Trm.four (Trm.aldr QM _) | with_reducible exact Trm.four (Trm.alloc QM _) | with_reducible exact Trm.four QM | with_reducible exact Trm.four (Trm.drew AE) | with_reducible exact Trm.four (Trm.aldr AE _) | with_reducible exact Trm.four (Trm.alloc AE _) | with_reducible (go_split_ands; assumption) | go_keep)
      (first | (go_at_call 44; first | ((with_reducible refine (s3 _).mono ?_); rintro e w1 ⟨rfl, rfl⟩) | ((with_reducible refine (s2 _).mono ?_); rintro e w1 ⟨rfl, rfl⟩)) | (go_at_call 53; (with_reducible refine (m2 _).mono ?_); rintro e w1 ⟨rfl, hb⟩; have QM : Trm w w1 an ad bn bd [⟨g1, h1, l1⟩] := (by with_reducible exact Trm.next (by go_split_ands; assumption) hb); (first | (have M : MidU w w1 _ [⟨g1, h1, l1⟩] := (by with_reducible exact MidU.start AE hb); obtain ⟨m0, m1, m2, m3⟩ := M.cells) | (have M : MidU w w1 _ [⟨g1, h1, l1⟩] := (by with_reducible exact MidU.startd AE hb); obtain ⟨m0, m1, m2, m3⟩ := M.cells) | skip)))
    all_goals (rename_i hH; clear hH)
    all_goals (go_wp2_with fail)
    all_goals go_meet
    all_goals first | exact ⟨_, rfl, Trm.store QM M _ _⟩ | exact ⟨_, rfl, Trm.addr QM _ _⟩ | exact ⟨_, rfl, Trm.add QM _ _⟩
  case rest =>
  obtain ⟨g2, rfl, BE⟩ := hcut
  clear AE
  go_upto_region 3 with fail
  go_cut [8] (fun s wx => ∃ g : Nat, s = .pointer (some ⟨g, 0, none⟩) ∧ Trm w wx an ad bn bd (⟨g, h3, l3⟩ :: [⟨g2, h2, l2⟩, ⟨g1, h1, l1⟩]))
  case first =>
    go_region_held3 (fun w' => w'.cell? ⟨w.heap.size, 0, none⟩ = some (.int .i64 an) ∧ w'.cell? ⟨w.heap.size, 1, none⟩ = some (.int .i64 ad) ∧ w'.cell? ⟨w.heap.size + 1, 0, none⟩ = some (.int .i64 bn) ∧ w'.cell? ⟨w.heap.size + 1, 1, none⟩ = some (.int .i64 bd) ∧ Trm w w' an ad bn bd [⟨g2, h2, l2⟩, ⟨g1, h1, l1⟩])
      (first | with_reducible exact Trm.four (Trm.off (Trm.store QM M _ _)) | with_reducible exact Trm.four (Trm.aldr QM _) | with_reducible exact Trm.four (Trm.alloc QM _) | with_reducible exact Trm.four QM | with_reducible exact Trm.four (Trm.drew BE) | with_reducible exact Trm.four (Trm.aldr BE _) | with_reducible exact Trm.four (Trm.alloc BE _) | with_reducible (go_split_ands; assumption) | go_keep)
      (first | (go_at_call 44; first | ((with_reducible refine (s2 _).mono ?_); rintro e w1 ⟨rfl, rfl⟩) | ((with_reducible refine (s4 _).mono ?_); rintro e w1 ⟨rfl, rfl⟩)) | (go_at_call 53; (with_reducible refine (m3 _).mono ?_); rintro e w1 ⟨rfl, hb⟩; have QM : Trm w w1 an ad bn bd [⟨g2, h2, l2⟩, ⟨g1, h1, l1⟩] := (by with_reducible exact Trm.next (by go_split_ands; assumption) hb); (first | (have M : MidU w w1 _ [⟨g2, h2, l2⟩, ⟨g1, h1, l1⟩] := (by with_reducible exact MidU.start BE hb); obtain ⟨m0, m1, m2, m3⟩ := M.cells) | (have M : MidU w w1 _ [⟨g2, h2, l2⟩, ⟨g1, h1, l1⟩] := (by with_reducible exact MidU.startd BE hb); obtain ⟨m0, m1, m2, m3⟩ := M.cells) | skip)))
    all_goals (rename_i hH; clear hH)
    all_goals (go_wp2_with fail)
    all_goals go_meet
    all_goals first | exact ⟨_, rfl, Trm.store QM M _ _⟩ | exact ⟨_, rfl, Trm.addr QM _ _⟩ | exact ⟨_, rfl, Trm.add QM _ _⟩
  case rest =>
  obtain ⟨g3, rfl, CE⟩ := hcut
  clear BE
  have K := CE.ten
  go_wp2_with (go_at_call 55; (with_reducible refine (hL _).mono ?_); rintro e w1 ⟨rfl, hb⟩; replace CE := CE.next hb; replace K := CE.ten; clear hb)
  go_region_held3 (fun w' => w'.cell? ⟨w.heap.size, 0, none⟩ = some (.int .i64 an) ∧ w'.cell? ⟨w.heap.size, 1, none⟩ = some (.int .i64 ad) ∧ w'.cell? ⟨w.heap.size + 1, 0, none⟩ = some (.int .i64 bn) ∧ w'.cell? ⟨w.heap.size + 1, 1, none⟩ = some (.int .i64 bd) ∧ w'.cell? ⟨g1, 0, none⟩ = some (.int .u64 h1) ∧ w'.cell? ⟨g1, 1, none⟩ = some (.int .u64 l1) ∧ w'.cell? ⟨g2, 0, none⟩ = some (.int .u64 h2) ∧ w'.cell? ⟨g2, 1, none⟩ = some (.int .u64 l2) ∧ w'.cell? ⟨g3, 0, none⟩ = some (.int .u64 h3) ∧ w'.cell? ⟨g3, 1, none⟩ = some (.int .u64 l3) ∧ Trm w w' an ad bn bd [⟨g3, h3, l3⟩, ⟨g2, h2, l2⟩, ⟨g1, h1, l1⟩])
    (first | with_reducible exact Trm.ten (Trm.set2 Q0 _ _) | with_reducible exact Trm.ten (Trm.drew CE) | with_reducible exact Trm.ten (Trm.next (by go_split_ands; assumption) hb) | with_reducible (go_split_ands; assumption) | go_keep)
    (first | (go_at_call 56; (with_reducible refine (hP _).mono ?_); rintro e w1 ⟨rfl, hb⟩) | (go_at_call 43; (with_reducible refine (hM _).mono ?_); rintro e w5 ⟨rfl, hb⟩; have Q0 : Trm w w5 an ad bn bd [⟨g3, h3, l3⟩, ⟨g2, h2, l2⟩, ⟨g1, h1, l1⟩] := (by with_reducible exact Trm.next (by go_split_ands; assumption) hb); obtain ⟨c, d, QQ⟩ := Trio.kept Q0.1))
  all_goals rename_i hH
  all_goals clear hH
  all_goals go_wp2
  all_goals refine bodyPost_ret (v := .tuple #[.agg #[.int .i64 x, .int .i64 q], .int .i64 e0]) (by simp [results, Tryd.results26, go_sem, QQ]) rfl ⟨rfl, ?_⟩
  all_goals exact (Q0.1.1.2.2.1.setCell (by simp; omega) _).setCell (by simp; omega) _

theorem addM {an ad bn bd : Int} (va : V an ad) (vb : V bn bd) : UU (pU (ab an) (ab bd)) ∧ UU (pU (ab bn) (ab ad)) ∧ 0 ≤ pU (ab an) (ab bd) ∧ pU (ab an) (ab bd) ≤ 1329227995784915872903807060280344576 ∧ 0 ≤ pU (ab bn) (ab ad) ∧ pU (ab bn) (ab ad) ≤ 1329227995784915872903807060280344576 ∧ 0 < pU (ab ad) (ab bd) ∧ pU (ab ad) (ab bd) ≤ 1329227995784915872903807060280344576 ∧ pU (ab ad) (ab bd) = ad * bd ∧ pU (ab an) (ab bd) = ab an * bd ∧ pU (ab bn) (ab ad) = ab bn * ad := by
  obtain ⟨p1, p2, p3, p4⟩ := V_ab va
  obtain ⟨q1, q2, q3, q4⟩ := V_ab vb
  unfold pU UU
  rw [p2, q2]
  have a0 := ab_nn an
  have b0 := ab_nn bn
  have k1 := Int.mul_le_mul p1 q3 (by omega) (by omega : (0 : Int) ≤ 1152921504606846976)
  have k2 := Int.mul_le_mul q1 p3 (by omega) (by omega : (0 : Int) ≤ 1152921504606846976)
  have k3 := Int.mul_le_mul p3 q3 (by omega) (by omega : (0 : Int) ≤ 1152921504606846976)
  have n1 := Int.mul_nonneg a0 (Int.le_of_lt q4)
  have n2 := Int.mul_nonneg b0 (Int.le_of_lt p4)
  have n3 := Int.mul_pos p4 q4
  exact ⟨by omega, by omega, n1, by omega, n2, by omega, n3, by omega, rfl, rfl, rfl⟩

theorem radd_ok (an ad bn bd : Int) (w : World) (va : V an ad) (vb : V bn bd) {x q e0 : Int} (hr : addQ an ad bn bd = (x, q, e0)) :
    Calls Tryd.prog 26 #[.agg #[.int .i64 an, .int .i64 ad], .agg #[.int .i64 bn, .int .i64 bd]] w fun e w' => e = .returned (.tuple #[.agg #[.int .i64 x, .int .i64 q], .int .i64 e0]) ∧ Below w.heap.size w w' := by
  obtain ⟨ux, uy, x0, x1, y0, y1, d0, d1, ed, ex, ey⟩ := addM va vb
  have va' := va
  have vb' := vb
  obtain ⟨a1, a2, a3, a4, -⟩ := va
  obtain ⟨b1, b2, b3, b4, -⟩ := vb
  have s1 := fun W => refSize_p an _ W (by omega) (by omega) rfl
  have s2 := fun W => refSize_p ad _ W (by omega) (by omega) rfl
  have s3 := fun W => refSize_p bn _ W (by omega) (by omega) rfl
  have s4 := fun W => refSize_p bd _ W (by omega) (by omega) rfl
  have m1 := fun W => mulU_any (ab an) (ab bd) W (by unfold ab; omega) (by unfold ab; omega)
  have m2 := fun W => mulU_any (ab bn) (ab ad) W (by unfold ab; omega) (by unfold ab; omega)
  have m3 := fun W => mulU_any (ab ad) (ab bd) W (by unfold ab; omega) (by unfold ab; omega)
  have k := fun m hx => made_mk (x := an * bd + bn * ad) (q := ad * bd) (m := m) (by omega) hx
  rw [← ed] at k
  unfold addQ at hr
  rw [← ed] at hr
  have gx : ∀ s : Bool, (s = decide (an < 0)) → an * bd = if s then -(pU (ab an) (ab bd)) else pU (ab an) (ab bd) := by
    intro s h
    rw [ex]
    by_cases c : an < 0
    · rw [ab_neg (n := an) (by omega), h]; simp [c]; try grind
    · rw [ab_pos (n := an) (by omega), h]; simp [c]
  have gy : ∀ s : Bool, (s = decide (bn < 0)) → bn * ad = if s then -(pU (ab bn) (ab ad)) else pU (ab bn) (ab ad) := by
    intro s h
    rw [ey]
    by_cases c : bn < 0
    · rw [ab_neg (n := bn) (by omega), h]; simp [c]; try grind
    · rw [ab_pos (n := bn) (by omega), h]; simp [c]
  have gx := gx _ rfl
  have gy := gy _ rfl
  rw [gx, gy] at k hr
  clear gx gy ex ey ed va' vb'
  generalize pU (ab ad) (ab bd) = D at *
  generalize pU (ab an) (ab bd) = X at *
  generalize pU (ab bn) (ab ad) = Y at *
  cases hs : (decide (an < 0) == decide (bn < 0))
  · have hs' : decide (an < 0) = !decide (bn < 0) := by
      revert hs; cases decide (an < 0) <;> cases decide (bn < 0) <;> simp
    by_cases c : X < Y
    · have hL := fun W => less_any X Y W ux uy
      rw [show decide (X < Y) = true by simp [c]] at hL
      have hP := fun W => minusU_any Y X W uy ux (by omega)
      have K := k (decide (bn < 0)) (by rw [hs']; unfold ab; cases decide (bn < 0) <;> simp <;> omega)
      have e : ab ((if decide (an < 0) = true then -X else X) + if decide (bn < 0) = true then -Y else Y) = dU Y X := by
        rw [hs']; unfold ab dU; cases decide (bn < 0) <;> simp <;> omega
      rw [e] at K
      exact radd_less an ad bn bd w _ _ _ _ _ _ _ _ _ _ _ _ x q e0 s1 s2 s3 s4 m1 m2 m3 hs hL hP fun W => madeU_any _ _ _ W (by unfold dU; omega) (by omega) (K.trans hr)
    · have hL := fun W => less_any X Y W ux uy
      rw [show decide (X < Y) = false by simp [c]] at hL
      have hP := fun W => minusU_any X Y W ux uy (by omega)
      have K := k (decide (an < 0)) (by rw [hs']; unfold ab; cases decide (bn < 0) <;> simp <;> omega)
      have e : ab ((if decide (an < 0) = true then -X else X) + if decide (bn < 0) = true then -Y else Y) = dU X Y := by
        rw [hs']; unfold ab dU; cases decide (bn < 0) <;> simp <;> omega
      rw [e] at K
      exact radd_more an ad bn bd w _ _ _ _ _ _ _ _ _ _ _ _ x q e0 s1 s2 s3 s4 m1 m2 m3 hs hL hP fun W => madeU_any _ _ _ W (by unfold dU; omega) (by omega) (K.trans hr)
  · have hs' : decide (an < 0) = decide (bn < 0) := by
      revert hs; cases decide (an < 0) <;> cases decide (bn < 0) <;> simp
    have hP := fun W => plusU_any X Y W ux uy (by unfold UU sU; omega)
    have K := k (decide (an < 0)) (by rw [hs']; unfold ab; cases decide (bn < 0) <;> simp <;> omega)
    have e : ab ((if decide (an < 0) = true then -X else X) + if decide (bn < 0) = true then -Y else Y) = sU X Y := by
      rw [hs']; unfold ab sU; cases decide (bn < 0) <;> simp <;> omega
    rw [e] at K
    exact radd_same an ad bn bd w _ _ _ _ _ _ _ _ _ _ _ _ x q e0 s1 s2 s3 s4 m1 m2 m3 hs hP fun W => madeU_any _ _ _ W (by unfold sU; omega) (by omega) (K.trans hr)

set_option maxHeartbeats 4000000 in
theorem rsub_ok (an ad bn bd : Int) (w : World) (va : V an ad) (vb : V bn bd) {x q e0 : Int} (hr : addQ an ad (-bn) bd = (x, q, e0)) :
    Calls Tryd.prog 27 #[.agg #[.int .i64 an, .int .i64 ad], .agg #[.int .i64 bn, .int .i64 bd]] w fun e w' => e = .returned (.tuple #[.agg #[.int .i64 x, .int .i64 q], .int .i64 e0]) ∧ Below w.heap.size w w' := by
  have hA := fun W => radd_ok an ad (-bn) bd W va (V_neg vb) hr
  have hN := fun W => neg_any bn bd (-bn) W (IntWalk.i64_in _ (by obtain ⟨_, _, _, _, _⟩ := vb; omega))
  have E := trio_start w an ad bn bd
  generalize -bn = cn at *
  clear va vb hr
  go_enter Tryd.func27, Tryd.ntmps27
  go_wp2_with fail
  generalize ((w.alloc (.cells #[.int .i64 an, .int .i64 ad] 23)).alloc (.cells #[.int .i64 bn, .int .i64 bd] 23)).alloc (.cells #[.int .i64 0, .int .i64 0] 23) = W at *
  go_region_held3 (fun w' => w'.cell? ⟨w.heap.size, 0, none⟩ = some (.int .i64 an) ∧ w'.cell? ⟨w.heap.size, 1, none⟩ = some (.int .i64 ad) ∧ w'.cell? ⟨w.heap.size + 1, 0, none⟩ = some (.int .i64 bn) ∧ w'.cell? ⟨w.heap.size + 1, 1, none⟩ = some (.int .i64 bd) ∧ Trio w w' an ad bn bd)
    (first | with_reducible exact Trio.four (Trio.set2 Q0 _ _) | with_reducible exact Trio.four (Trio.drew E) | with_reducible exact Trio.four (Trio.next (by go_split_ands; assumption) hb) | go_keep)
    (first | (go_at_call 46; (with_reducible refine (hN _).mono ?_); rintro e w1 ⟨rfl, hb⟩) | (go_at_call 26; (with_reducible refine (hA _).mono ?_); rintro e w5 ⟨rfl, hb⟩; have Q0 : Trio w w5 an ad bn bd := (by with_reducible exact Trio.next (by go_split_ands; assumption) hb); obtain ⟨c, d, QQ⟩ := Trio.kept Q0))
  all_goals rename_i hH
  all_goals clear hH
  all_goals go_wp2
  all_goals refine bodyPost_ret (v := .tuple #[.agg #[.int .i64 x, .int .i64 q], .int .i64 e0]) (by simp [results, Tryd.results27, go_sem, QQ]) rfl ⟨rfl, ?_⟩
  all_goals exact (Q0.1.2.2.1.setCell (by simp; omega) _).setCell (by simp; omega) _
end Go.Proofs.YtbbbmlnggehcdaaDoor
