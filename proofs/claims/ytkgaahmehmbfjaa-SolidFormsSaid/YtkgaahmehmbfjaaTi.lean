/- Section. -/
import Derived.Test.YtkgaahmehmbfjaaTh
import Derived.Deep.CutBlock
namespace Go.Proofs.Ytkgaahmehmbfjaa
open Go.ChangeShapes Go.WideShapes Go.ChangeAt Go.RowKit Go.Maps Go.Shelf
set_option linter.unusedVariables false
set_option linter.unusedSimpArgs false

attribute [local go_sem] Oper.semAt_some
theorem Has.chg {lo hi : Nat} {A B : World} {g : Nat} {t : TypeId} {cs : Array Value} (h : Has A g t cs) (hc : Chg lo hi A B) (hg : g < lo ∨ hi ≤ g) : Has B g t cs := by
  unfold Has; rw [hc.block g h.size_ hg]; exact h
theorem below_obj {B : Nat} {a w : World} (h : Below B a w) {l : Nat} (o : Obj) (hl : B ≤ l) : Below B a (w.putObj l o) :=
  ⟨h.os, h.tape, h.output, by have := h.size; simp; omega, fun k hk => (World.putObj_heap_other (by omega)).trans (h.block k hk)⟩
theorem Chg.thru {lo hi : Nat} {V W W' : World} (h : Chg lo hi V W) (hb : Below V.heap.size W W') : Chg lo hi V W' :=
  ⟨hb.os.trans h.os, hb.tape.trans h.tape, hb.output.trans h.output, Nat.le_trans h.size hb.size, fun k hk hs => (hb.block k hk).trans (h.block k hk hs)⟩
theorem len_flat {α β : Type} (f : α → List β) (m : Nat) : ∀ l : List α, (∀ x ∈ l, (f x).length ≤ m) → (l.flatMap f).length ≤ l.length * m
  | [], _ => by simp
  | x :: l, h => by
    rw [List.flatMap_cons, List.length_append, List.length_cons, Nat.succ_mul]
    have := h x (by simp)
    have := len_flat f m l fun y hy => h y (by simp [hy])
    omega
theorem parts_len {l h : List Bx} (hl : l.length ≤ 20) (hh : h.length ≤ 20) : (parts l h).length ≤ 512000 := by
  have b := fun ax => places_len l h ax hl hh
  have e := fun ax => strs_len l h ax
  have z : ∀ x y, (rowZ x y (strs l h 2)).length ≤ 80 := fun x y => by
    have := len_flat (fun z => if keepX x y z then [bxX x y z] else []) 1 (strs l h 2) (fun z _ => by split <;> simp)
    have := e 2; have := b 2
    unfold rowZ; omega
  have y : ∀ x, (rowY x (strs l h 1) (strs l h 2)).length ≤ 6400 := fun x => by
    have h1 := len_flat (fun y => rowZ x y (strs l h 2)) 80 (strs l h 1) (fun y _ => z x y)
    have := e 1; have := b 1
    have : (strs l h 1).length * 80 ≤ 80 * 80 := Nat.mul_le_mul_right _ (by omega)
    unfold rowY; omega
  have h1 := len_flat (fun x => rowY x (strs l h 1) (strs l h 2)) 6400 (strs l h 0) (fun x _ => y x)
  have := e 0; have := b 0
  have : (strs l h 0).length * 6400 ≤ 80 * 6400 := Nat.mul_le_mul_right _ (by omega)
  unfold parts prtL; omega
/-- What a part adds to the cross-section at x. -/
def secB (x : Int) (b : Bx) : Int := if b.a ≤ x ∧ x < b.d then (b.e - b.b) * (b.f - b.c) else 0
def secL (P : List Bx) (x : Int) : Int := (P.map (secB x)).sum
theorem secL_snoc (P : List Bx) (b : Bx) (x : Int) : secL (P ++ [b]) x = secL P x + secB x b := by simp [secL]
theorem secB_bd {x : Int} {b : Bx} (h : tkB b = true) : 0 ≤ secB x b ∧ secB x b ≤ 4398046511104 := by
  have h := tk_i.1 h
  have := prod_bd (a := b.e - b.b) (b := b.f - b.c) (A := 2097152) (B := 2097152) (by omega) (by omega) (by omega) (by omega)
  unfold secB; split <;> omega
theorem secL_bd {x : Int} : ∀ {P : List Bx}, (∀ b ∈ P, tkB b = true) → 0 ≤ secL P x ∧ secL P x ≤ P.length * 4398046511104
  | [], _ => by simp [secL]
  | b :: P, h => by
    have ih := secL_bd (x := x) (P := P) fun y hy => h y (by simp [hy])
    have h1 := secB_bd (x := x) (h b (by simp))
    have e : secL (b :: P) x = secB x b + secL P x := by simp [secL]
    rw [e, List.length_cons]; omega
/-- What the rounds of a sum keep. -/
structure Acc (V : World) (sb : Nat) (v : Int) (W : World) : Prop where
  ch : Chg sb (sb + 1) V W
  at_ : Has W sb 3 #[.int .i64 v]
theorem Acc.on {V W W' : World} {sb : Nat} {v : Int} (h : Acc V sb v W) (hs : sb < V.heap.size) (hb : Below V.heap.size W W') : Acc V sb v W' :=
  ⟨h.ch.thru hb, by unfold Has; rw [hb.block sb hs]; exact h.at_⟩
theorem Acc.put {V W : World} {sb : Nat} {v v' : Int} (h : Acc V sb v W) : Acc V sb v' (W.setCell ⟨sb, 0, none⟩ (.int .i64 v')) :=
  ⟨h.ch.trans (Chg.put _ _ _ (Nat.le_refl _) (Nat.lt_succ_self _)), by have := h.at_.put_ 0 (.int .i64 v'); simpa using this⟩
theorem kpo_put {S : Nat → Prop} {W : World} {g i : Nat} {v : Value} (h : ¬ S g) : Kpo S W (W.setCell ⟨g, i, none⟩ v) :=
  ⟨⟨by simp [World.setCell], fun k hk hs => Below.heap_setCell _ _ _ _ (fun e => by subst e; exact h hs)⟩, rfl, rfl, rfl⟩
theorem Chg.has_ {sb g : Nat} {V W : World} {t : TypeId} {cs : Array Value} (h : Chg sb (sb + 1) V W) (hg : Has V g t cs) (hne : g ≠ sb) : Has W g t cs := hg.chg h (by omega)
set_option maxHeartbeats 8000000 in
set_option maxRecDepth 100000 in
theorem Section_no (p q : Option Addr) (l h : List Bx) (c d : Nat) (x : Int) (w : World) (hS : Sl w p l) (hT : Sl w q h) (hs : okS l h = false) :
    Calls Try.prog 23 #[sv p q l h c d, .int .i64 x] w fun e w' => e = .returned (.tuple #[.int .i64 0, .int .i64 1]) ∧ Below w.heap.size w w' := by
  have h14 := fun W a b => val14 p q l h c d W a b
  have E := ((Env.nil w).add w.heap.size 24 #[.slice p l.length c, .slice q h.length d] rfl).add (w.heap.size + 1) 3 #[.int .i64 x] (by simp)
  have C := E.cells
  simp [BC, CF] at C
  simp only [hs] at h14
  unfold sv
  go_enter Try.func23, Try.ntmps23
  go_wp2_with (first
    | (go_at_call 14; (with_reducible refine (h14 _ (hS.on (envB E)) (hT.on (envB E))).mono ?_); rintro X wq ⟨rfl, hb⟩; replace E := E.on hb; replace C := E.cells; simp [BC, CF] at C; clear hb))
  refine bodyPost_ret (v := .tuple #[.int .i64 0, .int .i64 1]) (by simp [results, Try.results23, go_sem]) rfl ⟨rfl, E.1⟩
set_option maxHeartbeats 8000000 in
set_option maxRecDepth 100000 in
theorem Section_far (p q : Option Addr) (l h : List Bx) (c d : Nat) (x : Int) (w : World) (hS : Sl w p l) (hT : Sl w q h) (hs : okS l h = true) (hx : ¬ (-1048576 ≤ x ∧ x ≤ 1048576)) :
    Calls Try.prog 23 #[sv p q l h c d, .int .i64 x] w fun e w' => e = .returned (.tuple #[.int .i64 0, .int .i64 2]) ∧ Below w.heap.size w w' := by
  have h14 := fun W a b => val14 p q l h c d W a b
  have E := ((Env.nil w).add w.heap.size 24 #[.slice p l.length c, .slice q h.length d] rfl).add (w.heap.size + 1) 3 #[.int .i64 x] (by simp)
  have C := E.cells
  simp [BC, CF] at C
  simp only [hs] at h14
  unfold sv
  by_cases h1 : x < -1048576
  · have g1 : decide (x < -1048576) = true := by simp [h1]
    go_enter Try.func23, Try.ntmps23
    go_wp2_with (first
      | (go_at_call 14; (with_reducible refine (h14 _ (hS.on (envB E)) (hT.on (envB E))).mono ?_); rintro X wq ⟨rfl, hb⟩; replace E := E.on hb; replace C := E.cells; simp [BC, CF] at C; clear hb))
    refine bodyPost_ret (v := .tuple #[.int .i64 0, .int .i64 2]) (by simp [results, Try.results23, go_sem]) rfl ⟨rfl, E.1⟩
  · have g1 : decide (x < -1048576) = false := by simp; omega
    have g2 : decide (1048576 < x) = true := by simp; omega
    go_enter Try.func23, Try.ntmps23
    go_wp2_with (first
      | (go_at_call 14; (with_reducible refine (h14 _ (hS.on (envB E)) (hT.on (envB E))).mono ?_); rintro X wq ⟨rfl, hb⟩; replace E := E.on hb; replace C := E.cells; simp [BC, CF] at C; clear hb))
    refine bodyPost_ret (v := .tuple #[.int .i64 0, .int .i64 2]) (by simp [results, Try.results23, go_sem]) rfl ⟨rfl, E.1⟩
set_option maxHeartbeats 8000000 in
set_option maxRecDepth 100000 in
theorem Section_ok (p q : Option Addr) (l h : List Bx) (c d : Nat) (x : Int) (w : World) (hS : Sl w p l) (hT : Sl w q h) (hs : okS l h = true) (hx : -1048576 ≤ x ∧ x ≤ 1048576) :
    Calls Try.prog 23 #[sv p q l h c d, .int .i64 x] w fun e w' => e = .returned (.tuple #[.int .i64 (secL (parts l h) x), .int .i64 0]) ∧ Below w.heap.size w w' := by
  have h14 := fun W a b => val14 p q l h c d W a b
  have E := ((Env.nil w).add w.heap.size 24 #[.slice p l.length c, .slice q h.length d] rfl).add (w.heap.size + 1) 3 #[.int .i64 x] (by simp)
  have C := E.cells
  simp [BC, CF] at C
  simp only [hs] at h14
  unfold sv
  have g1 : decide (x < -1048576) = false := by simp; omega
  have g2 : decide (1048576 < x) = false := by simp; omega
  refine (callsIn_wide (n := 6)).1 ?_
  refine callsIn_of_wp_marks Try.func23 rfl trivial ?_ rfl
  simp only [Try.ntmps23, List.size_toArray, List.length_cons, List.length_nil, Nat.reduceAdd, Nat.reduceSub, Array.replicate_succ, Array.replicate_zero, List.push_toArray, List.append_toArray, List.nil_append, List.cons_append]
  have hf14 : Fence.wide.fn 14 := trivial
  have hf56 : Fence.wide.fn 56 := trivial
  gi_upto_region 5 with (gi_at_call 14; (with_reducible refine (callsIn_wide.2 (h14 _ (hS.on (envB E)) (hT.on (envB E)))).mono ?_); rintro X w1 ⟨rfl, hb1⟩; replace E := E.on hb1; replace C := E.cells; simp [BC, CF] at C)
  gi_upto_region 6 with fail
  replace E := E.add w1.heap.size 3 #[.int .i64 0] rfl
  replace C := E.cells
  simp [BC, CF] at C
  have hw1 : w.heap.size + 1 < w1.heap.size := by
    have := hb1.size; simp at this; omega
  gi_wp2_with (gi_at_call 56; (with_reducible refine (callsIn_wide.2 (parts_56 p q l h c d _)).mono ?_); rintro X w2 ⟨rfl, rfl⟩)
  have Gs := Has.new_ (w1.alloc (.cells #[.int .i64 0] 3)) 24 #[.slice p l.length c, .slice q h.length d]
  replace E := E.on (al1 _ (.cells #[.slice p l.length c, .slice q h.length d] 24))
  clear hb1 C h14
  rw [show (w1.alloc (.cells #[.int .i64 0] 3)).heap.size = w1.heap.size + 1 from World.size_alloc _ _] at Gs
  generalize (w1.alloc (.cells #[.int .i64 0] 3)).alloc (.cells #[.slice p l.length c, .slice q h.length d] 24) = V at *
  generalize w1.heap.size = sb at *
  have A0 := E.2.2.1
  have A1 := E.2.2.2.2.2.1
  have hSV := hS.on (envB E)
  have hTV := hT.on (envB E)
  have hBV := envB E
  have hsb := A0.size_
  dsimp only at A0 A1 hsb
  clear E
  have hpt := part_tk hs
  obtain ⟨⟨hl1, hl2⟩, hh2, -, -⟩ := okS_i.1 hs
  have hpl := parts_len hl2 hh2
  refine wpIn_range_far (by omega) (gf := 78) (ba := #[]) (lb := #[.pointer (some ⟨sb + 1, 0, none⟩)]) rfl (enters_of Try.func78 (by kernel_rfl) rfl) (R := fun _ x _ vs => vs = #[x.val])
    (fun k => k < V.heap.size ∧ k ≠ sb) (parts l h) (by rintro k x W vs rfl; rfl)
    (fun W hW hbW => parts_yields _ _ (sb + 1) p q l h c d V W hSV hTV hs (Gs.read 0) (Gs.read 1) hbW hW)
    (fun pre W => Acc V sb (secL pre x) W) (fun _ _ _ => False) (fun s A B hs hz hc => hs.on hsb hc) (fun j s A B hs hc => hs) ⟨Chg.refl _ _ _, A0⟩ ?round (fun k hk => hk.1) ?done (fun j pre rest W hxs C hK => C.elim)
  case round =>
    rintro L pre b rest W vs hxs hA hsz rfl
    have hbt : tkB b = true := hpt b (by rw [hxs]; simp)
    have hbi := tk_i.1 hbt
    have hpre : ∀ y ∈ pre, tkB y = true := fun y hy => hpt y (by rw [hxs]; simp [hy])
    have hln : pre.length ≤ 512000 := by have := congrArg List.length hxs; simp at this; omega
    have hsl := secL_bd (x := x) hpre
    have hs1 := secB_bd (x := x) hbt
    have hsn := secL_snoc pre b x
    clear hxs hpre hpt
    unfold Bx.val
    gi_wp2
    refine ⟨Kpo.of (al1 _ _), fun w3 hc3 hz3 => ?_⟩
    have hF := (Has.new_ W 30 #[.int .i64 b.a, .int .i64 b.b, .int .i64 b.c, .int .i64 b.d, .int .i64 b.e, .int .i64 b.f]).chg hc3 (.inr (by omega))
    have I3 : Acc V sb (secL pre x) w3 := hA.on hsb ((Below.less (al1 W (.cells #[.int .i64 b.a, .int .i64 b.b, .int .i64 b.c, .int .i64 b.d, .int .i64 b.e, .int .i64 b.f] 30)) (by omega)).trans (Below.less (Chg.below' hc3 (by simp; omega)) (by omega)))
    have F0 := hF.read 0
    have F1 := hF.read 1
    have F2 := hF.read 2
    have F3 := hF.read 3
    have F4 := hF.read 4
    have F5 := hF.read 5
    have R0 := I3.at_.read 0
    have f0 := I3.at_.open_ 0
    have X0 := (I3.ch.has_ A1 (by omega)).read 0
    simp only [List.getElem?_toArray, List.getElem?_cons_succ, List.getElem?_cons_zero] at F0 F1 F2 F3 F4 F5 R0 X0
    have HI := Lib.hid I3
    clear hF hc3 I3 hA
    by_cases h1 : b.a ≤ x
    · have q1 : decide (b.a ≤ x) = true := by simp [h1]
      by_cases h2 : x < b.d
      · have q2 : decide (x < b.d) = true := by simp [h2]
        have e : secB x b = (b.e - b.b) * (b.f - b.c) := if_pos ⟨h1, h2⟩
        rw [e] at hsn hs1
        have W1 : IntKind.i64.wrap (b.e - b.b) = b.e - b.b := IntWalk.i64_in _ (by omega)
        have W2 : IntKind.i64.wrap (b.f - b.c) = b.f - b.c := IntWalk.i64_in _ (by omega)
        have W3 : IntKind.i64.wrap ((b.e - b.b) * (b.f - b.c)) = (b.e - b.b) * (b.f - b.c) := IntWalk.i64_in _ (by omega)
        have W4 : IntKind.i64.wrap (secL pre x + (b.e - b.b) * (b.f - b.c)) = secL (pre ++ [b]) x := by rw [hsn]; exact IntWalk.i64_in _ (by omega)
        clear hsn hs1 hsl e h1 h2
        gi_wp2
        exact ⟨kpo_put (by simp; omega), HI.out.put⟩
      · have q2 : decide (x < b.d) = false := by simp; omega
        rw [show secB x b = 0 from if_neg (by omega), Int.add_zero] at hsn
        gi_wp2
        exact ⟨Kpo.refl _ _, by have := HI.out; rw [← hsn] at this; exact this⟩
    · have q1 : decide (b.a ≤ x) = false := by simp; omega
      rw [show secB x b = 0 from if_neg (by omega), Int.add_zero] at hsn
      gi_wp2
      exact ⟨Kpo.refl _ _, by have := HI.out; rw [← hsn] at this; exact this⟩
  case done =>
    rintro W hA hK
    have R0 := hA.at_.read 0
    simp only [List.getElem?_toArray, List.getElem?_cons_zero] at R0
    have HA := Lib.hid hA
    clear hA A0 A1 hSV hTV
    gi_wp2
    have hW : Below w.heap.size w W := hBV.trans (Chg.below HA.out.ch (by omega) (by omega))
    refine ⟨by simp, .inl ⟨_, _, rfl, run_takeDeferred hK, ?_⟩⟩
    have hob := fun ob => below_obj hW (l := V.heap.size) ob (by omega)
    refine ⟨.tuple #[.int .i64 (secL (parts l h) x), .int .i64 0], by simp [results, Try.results23, go_sem], rfl, hob _⟩
end Go.Proofs.Ytkgaahmehmbfjaa
