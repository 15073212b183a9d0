/- Sides of boxes: the coordinates' pointers, the sides, and what is reckoned of one or two sides. What is reckoned of one or two sides. Valid. Lists of boxes, as they come in. boxOf. How a pair of sides ends up in memory, whatever comes first. combined, with the method sdhull. Meet, in terms of boxes; Grown. Hull. Box of the program. -/
import Derived.Test.YtfkcogocaecodaaZ1
import Derived.Test.YtfkcogocaecodaaZ3
namespace Go.Proofs.Ytfkcogocaecodaa
open Go.ChangeShapes Go.WideShapes Go.ChangeAt Go.RowKit
set_option linter.unusedVariables false
set_option linter.unusedSimpArgs false

/-- A contract for a call that makes memory, and changes none that was there. -/
def Fn (K : Nat) (args : Array Value) (r : Value) : Prop := ∀ w, Calls Try.prog K args w fun e w' => e = .returned r ∧ Below w.heap.size w w'
theorem coord_any (g o : Nat) (w : World) :
    Calls Try.prog 78 #[.pointer (some ⟨g, o, none⟩)] w fun e w' => e = .returned (.agg #[.pointer (some ⟨g, o, none⟩), .pointer (some ⟨g, o + 1, none⟩), .pointer (some ⟨g, o + 2, none⟩)]) ∧ Below w.heap.size w w' := by
  go_enter Try.func78, Try.ntmps78
  go_wp2
  go_region_law (fail)
  all_goals go_wp2
  all_goals refine bodyPost_ret (v := .agg #[.pointer (some ⟨g, o, none⟩), .pointer (some ⟨g, o + 1, none⟩), .pointer (some ⟨g, o + 2, none⟩)]) (by simp [results, Try.results78, go_sem]) rfl ⟨rfl, Below.drew (al1 _ _)⟩
def sdV (lo hi : Int) : Bool := decide (-1048576 ≤ lo) && decide (lo ≤ hi) && decide (hi ≤ 1048576)
theorem sdvalid_any (lo hi : Int) (w : World) :
    Calls Try.prog 62 #[.agg #[.int .i64 lo, .int .i64 hi]] w fun e w' => e = .returned (.bool (sdV lo hi)) ∧ Below w.heap.size w w' := by
  unfold sdV
  go_enter Try.func62, Try.ntmps62
  go_wp2
  all_goals go_ret
  all_goals refine ⟨?_, al1 _ _⟩
  all_goals simp_all
  all_goals omega
/-- Six cells of a block. -/
def C6 (a b c d e f : Int) : Array Value := #[.int .i64 a, .int .i64 b, .int .i64 c, .int .i64 d, .int .i64 e, .int .i64 f]
def P6 (g o : Nat) : Array Value := #[.pointer (some ⟨g, o, none⟩), .pointer (some ⟨g, o + 1, none⟩), .pointer (some ⟨g, o + 2, none⟩)]
/-- The cells of a list of sides behind i rounds. -/
def S6 (i : Nat) (a b c d e f : Int) : Array Value := #[.int .i64 (if 0 < i then a else 0), .int .i64 (if 0 < i then d else 0), .int .i64 (if 1 < i then b else 0), .int .i64 (if 1 < i then e else 0), .int .i64 (if 2 < i then c else 0), .int .i64 (if 2 < i then f else 0)]
/-- The blocks of sides: pointers, the list behind i rounds, the result, the box. -/
def Lsd (n m i : Nat) (a b c d e f : Int) : List Fb := [⟨m + 1, 128, P6 n 3⟩, ⟨m, 128, P6 n 0⟩, ⟨n + 1 + 1, 112, S6 i a b c d e f⟩, ⟨n + 1, 112, C6 0 0 0 0 0 0⟩, ⟨n, 54, C6 a b c d e f⟩]
set_option maxHeartbeats 4000000 in
set_option maxRecDepth 100000 in
theorem sides_any (a b c d e f : Int) (w : World) :
    Calls Try.prog 61 #[.agg #[.int .i64 a, .int .i64 b, .int .i64 c, .int .i64 d, .int .i64 e, .int .i64 f]] w fun E w' => E = .returned (.agg #[.int .i64 a, .int .i64 d, .int .i64 b, .int .i64 e, .int .i64 c, .int .i64 f]) ∧ Below w.heap.size w w' := by
  have E := (((Env.nil w).add w.heap.size 54 (C6 a b c d e f) rfl).add (w.heap.size + 1) 112 (C6 0 0 0 0 0 0) (by simp)).add (w.heap.size + 1 + 1) 112 (C6 0 0 0 0 0 0) (by simp)
  go_enter Try.func61, Try.ntmps61
  go_wp2_with (go_at_call 78; refine (coord_any _ _ _).mono ?_; rintro E w1 ⟨rfl, hb1⟩; replace E := E.on hb1; clear hb1)
  obtain ⟨W, hW⟩ : ∃ W, W = w1 := ⟨_, rfl⟩
  subst w1
  replace E := (E.add W.heap.size 128 (P6 w.heap.size 0) rfl).add (W.heap.size + 1) 128 (P6 w.heap.size 3) (by simp)
  go_loopw [11] (fun v11 wr => ∃ i : Nat, v11 = .int .i64 (i : Int) ∧ i ≤ 3 ∧ Env w wr (Lsd w.heap.size W.heap.size i a b c d e f)) (fun v _ => 3 - (intOf v).toNat)
  case atStart => exact ⟨0, rfl, by omega, E⟩
  case round =>
    clear E
    obtain ⟨i, rfl, hi, E⟩ := hrel
    rcases (by omega : i = 0 ∨ i = 1 ∨ i = 2 ∨ i = 3) with rfl | rfl | rfl | rfl
    · have C := E.cells
      simp [BC, CF, Lsd, C6, P6, S6] at C
      go_wp2
      go_still_tail 13, (by kernel_rfl)
      go_wp2
      go_roundw
      all_goals first | exact ⟨1, rfl, by omega, ((E.put 2 0 _ rfl).put 2 1 _ rfl).drw⟩ | (simp [intOf])
    · have C := E.cells
      simp [BC, CF, Lsd, C6, P6, S6] at C
      go_wp2
      go_still_tail 13, (by kernel_rfl)
      go_wp2
      go_roundw
      all_goals first | exact ⟨2, rfl, by omega, ((E.put 2 2 _ rfl).put 2 3 _ rfl).drw⟩ | (simp [intOf])
    · have C := E.cells
      simp [BC, CF, Lsd, C6, P6, S6] at C
      go_wp2
      go_still_tail 13, (by kernel_rfl)
      go_wp2
      go_roundw
      all_goals first | exact ⟨3, rfl, by omega, ((E.put 2 4 _ rfl).put 2 5 _ rfl).drw⟩ | (simp [intOf])
    · have C := E.cells
      simp [BC, CF, Lsd, C6, P6, S6] at C
      go_wp2
      refine bodyPost_ret (v := .agg #[.int .i64 a, .int .i64 d, .int .i64 b, .int .i64 e, .int .i64 c, .int .i64 f]) (by simp [results, Try.results61, go_sem, C]) rfl ⟨rfl, ?_⟩
      exact ((((((E.put 3 0 _ rfl).put 3 1 _ rfl).put 3 2 _ rfl).put 3 3 _ rfl).put 3 4 _ rfl).put 3 5 _ rfl).1
end Go.Proofs.Ytfkcogocaecodaa
namespace Go.Proofs.Ytfkcogocaecodaa
open Go.ChangeShapes Go.WideShapes Go.ChangeAt Go.RowKit
set_option linter.unusedVariables false
set_option linter.unusedSimpArgs false

def mx (a b : Int) : Int := if a < b then b else a
def mn (a b : Int) : Int := if b < a then b else a
/-- A coordinate, or what is near one. -/
def Sml (n : Int) : Prop := -1000000000000 ≤ n ∧ n ≤ 1000000000000
def gapS (p1 p2 q1 q2 : Int) : Int := mx (q1 - p2) (p1 - q2)
def nearS (p1 p2 q1 q2 : Int) : Int × Int := if p2 < q1 then (p2, q1) else if q2 < p1 then (p1, q2) else (mx p1 q1, mx p1 q1)
theorem mn_l {a b : Int} (h : a < b) : mn b a = a := if_pos h
theorem mn_r {a b : Int} (h : ¬ a < b) : mn b a = b := if_neg h
theorem mx_l {a b : Int} (h : a < b) : mx a b = b := if_pos h
theorem mx_r {a b : Int} (h : ¬ a < b) : mx a b = a := if_neg h
theorem sdhull_any (p1 p2 q1 q2 : Int) (w : World) :
    Calls Try.prog 48 #[.agg #[.int .i64 p1, .int .i64 p2], .agg #[.int .i64 q1, .int .i64 q2]] w fun e w' => e = .returned (.agg #[.int .i64 (mn p1 q1), .int .i64 (mx p2 q2)]) ∧ Below w.heap.size w w' := by
  by_cases c1 : q1 < p1 <;> by_cases c2 : p2 < q2
  all_goals (first | rw [mn_l c1] | rw [mn_r c1])
  all_goals (first | rw [mx_l c2] | rw [mx_r c2])
  all_goals go_enter Try.func48, Try.ntmps48
  all_goals go_wp2
  all_goals first
    | exact bodyPost_ret (v := .agg #[.int .i64 q1, .int .i64 q2]) (by simp [results, Try.results48, go_sem] <;> omega) rfl ⟨rfl, al (al (al1 _ _) _) _⟩
    | exact bodyPost_ret (v := .agg #[.int .i64 q1, .int .i64 p2]) (by simp [results, Try.results48, go_sem] <;> omega) rfl ⟨rfl, al (al (al1 _ _) _) _⟩
    | exact bodyPost_ret (v := .agg #[.int .i64 p1, .int .i64 q2]) (by simp [results, Try.results48, go_sem] <;> omega) rfl ⟨rfl, al (al (al1 _ _) _) _⟩
    | exact bodyPost_ret (v := .agg #[.int .i64 p1, .int .i64 p2]) (by simp [results, Try.results48, go_sem] <;> omega) rfl ⟨rfl, al (al (al1 _ _) _) _⟩
def conS (p1 p2 q1 q2 : Int) : Bool := decide (p1 ≤ q1) && decide (q2 ≤ p2)
end Go.Proofs.Ytfkcogocaecodaa
namespace Go.Proofs.Ytfkcogocaecodaa
open Go.ChangeShapes Go.WideShapes Go.ChangeAt Go.RowKit
set_option linter.unusedVariables false
set_option linter.unusedSimpArgs false

theorem six0 (a b c d e f : Int) (w : World) : Sem.run Try.prog (Instr.index 112 (.agg #[.int .i64 a, .int .i64 b, .int .i64 c, .int .i64 d, .int .i64 e, .int .i64 f]) (.int .i64 0)) w = .ok (.agg #[.int .i64 a, .int .i64 b]) w := by
  simp [Instr.index, go_sem, Try.underlying112]
theorem six1 (a b c d e f : Int) (w : World) : Sem.run Try.prog (Instr.index 112 (.agg #[.int .i64 a, .int .i64 b, .int .i64 c, .int .i64 d, .int .i64 e, .int .i64 f]) (.int .i64 1)) w = .ok (.agg #[.int .i64 c, .int .i64 d]) w := by
  simp [Instr.index, go_sem, Try.underlying112]
theorem six2 (a b c d e f : Int) (w : World) : Sem.run Try.prog (Instr.index 112 (.agg #[.int .i64 a, .int .i64 b, .int .i64 c, .int .i64 d, .int .i64 e, .int .i64 f]) (.int .i64 2)) w = .ok (.agg #[.int .i64 e, .int .i64 f]) w := by
  simp [Instr.index, go_sem, Try.underlying112]
def vB (a b c d e f : Int) : Bool := sdV a d && sdV b e && sdV c f
set_option maxHeartbeats 4000000 in
set_option maxRecDepth 100000 in
theorem valid_any (a b c d e f : Int) (w : World) :
    Calls Try.prog 44 #[.agg #[.int .i64 a, .int .i64 b, .int .i64 c, .int .i64 d, .int .i64 e, .int .i64 f]] w fun E w' => E = .returned (.bool (vB a b c d e f)) ∧ Below w.heap.size w w' := by
  have h1 := fun W => sides_any a b c d e f W
  have k0 := fun W => sdvalid_any a d W
  have k1 := fun W => sdvalid_any b e W
  have k2 := fun W => sdvalid_any c f W
  unfold vB
  generalize sdV a d = x at *
  generalize sdV b e = y at *
  generalize sdV c f = z at *
  have B0 := al1 w (.cells (C6 a b c d e f) 54)
  go_enter Try.func44, Try.ntmps44
  go_wp2_with (go_at_call 61; (with_reducible refine (h1 _).mono ?_); rintro X w1 ⟨rfl, hb⟩; replace B0 := belows B0 hb; clear hb h1)
  go_loopw [7] (fun v wr => ∃ i : Nat, v = .int .i64 (i : Int) ∧ i ≤ 3 ∧ Below w.heap.size w wr ∧ (0 < i → x = true) ∧ (1 < i → y = true) ∧ (2 < i → z = true)) (fun v _ => 3 - (intOf v).toNat)
  case atStart => exact ⟨0, rfl, by omega, B0, by omega, by omega, by omega⟩
  case round =>
    clear B0
    obtain ⟨i, rfl, hi, B, hx, hy, hz⟩ := hrel
    rcases (by omega : i = 0 ∨ i = 1 ∨ i = 2 ∨ i = 3) with rfl | rfl | rfl | rfl
    · clear hx hy hz
      have ix := fun W => six0 a d b e c f W
      cases x
      · go_wp2_with (go_at_call 62; (with_reducible refine (k0 _).mono ?_); rintro X w2 ⟨rfl, hb⟩; replace B := belows (al B _) hb; clear hb)
        go_ret
        exact ⟨rfl, B⟩
      · go_wp2_with (go_at_call 62; (with_reducible refine (k0 _).mono ?_); rintro X w2 ⟨rfl, hb⟩; replace B := belows (al B _) hb; clear hb)
        exact ⟨⟨1, rfl, by omega, B, by simp, by simp, by simp⟩, by simp [intOf]⟩
    · have e := hx (by omega); subst e
      clear hx hy hz
      have ix := fun W => six1 a d b e c f W
      cases y
      · go_wp2_with (go_at_call 62; (with_reducible refine (k1 _).mono ?_); rintro X w2 ⟨rfl, hb⟩; replace B := belows (al B _) hb; clear hb)
        go_ret
        exact ⟨rfl, B⟩
      · go_wp2_with (go_at_call 62; (with_reducible refine (k1 _).mono ?_); rintro X w2 ⟨rfl, hb⟩; replace B := belows (al B _) hb; clear hb)
        exact ⟨⟨2, rfl, by omega, B, by simp, by simp, by simp⟩, by simp [intOf]⟩
    · have e := hx (by omega); subst e
      have e := hy (by omega); subst e
      clear hx hy hz
      have ix := fun W => six2 a d b e c f W
      cases z
      · go_wp2_with (go_at_call 62; (with_reducible refine (k2 _).mono ?_); rintro X w2 ⟨rfl, hb⟩; replace B := belows (al B _) hb; clear hb)
        go_ret
        exact ⟨rfl, B⟩
      · go_wp2_with (go_at_call 62; (with_reducible refine (k2 _).mono ?_); rintro X w2 ⟨rfl, hb⟩; replace B := belows (al B _) hb; clear hb)
        exact ⟨⟨3, rfl, by omega, B, by simp, by simp, by simp⟩, by simp [intOf]⟩
    · have e := hx (by omega); subst e
      have e := hy (by omega); subst e
      have e := hz (by omega); subst e
      clear hx hy hz
      go_wp2
      go_ret
      exact ⟨rfl, B⟩
end Go.Proofs.Ytfkcogocaecodaa
namespace Go.Proofs.Ytfkcogocaecodaa
open Go.ChangeShapes Go.WideShapes Go.ChangeAt Go.RowKit
set_option linter.unusedVariables false
set_option linter.unusedSimpArgs false

structure Bx where
  a : Int
  b : Int
  c : Int
  d : Int
  e : Int
  f : Int
deriving DecidableEq
def Bx.val (x : Bx) : Value := .agg #[.int .i64 x.a, .int .i64 x.b, .int .i64 x.c, .int .i64 x.d, .int .i64 x.e, .int .i64 x.f]
def Bx.ok (x : Bx) : Bool := vB x.a x.b x.c x.d x.e x.f
/-- The boxes that lie in a row of cells. -/
def Fr6 (w : World) (a : Addr) (l : List Bx) : Prop := ∀ i (h : i < l.length), w.cell? (a.add (i * 6)) = some (.int .i64 l[i].a) ∧ w.cell? ⟨(a.add (i * 6)).block, (a.add (i * 6)).off + 1, none⟩ = some (.int .i64 l[i].b) ∧ w.cell? ⟨(a.add (i * 6)).block, (a.add (i * 6)).off + 2, none⟩ = some (.int .i64 l[i].c) ∧ w.cell? ⟨(a.add (i * 6)).block, (a.add (i * 6)).off + 3, none⟩ = some (.int .i64 l[i].d) ∧ w.cell? ⟨(a.add (i * 6)).block, (a.add (i * 6)).off + 4, none⟩ = some (.int .i64 l[i].e) ∧ w.cell? ⟨(a.add (i * 6)).block, (a.add (i * 6)).off + 5, none⟩ = some (.int .i64 l[i].f)
theorem Fr6.on {w w1 : World} {a : Addr} {l : List Bx} (h : Fr6 w a l) (hb : Below w.heap.size w w1) : Fr6 w1 a l := fun i hi => by
  obtain ⟨h0, h1, h2, h3, h4, h5⟩ := h i hi
  exact ⟨cell_later hb h0, cell_later hb h1, cell_later hb h2, cell_later hb h3, cell_later hb h4, cell_later hb h5⟩
/-- A slice of boxes, nil or not. -/
def Sl (w : World) (p : Option Addr) (l : List Bx) : Prop := (p = none → l = []) ∧ (∀ a, p = some a → Fr6 w a l) ∧ l.length ≤ maxLen
theorem Sl.on {w w1 : World} {p : Option Addr} {l : List Bx} (h : Sl w p l) (hb : Below w.heap.size w w1) : Sl w1 p l := ⟨h.1, fun a ha => (h.2.1 a ha).on hb, h.2.2⟩
theorem Sl.at {w : World} {p : Option Addr} {l : List Bx} (h : Sl w p l) {k : Nat} (hk : k < l.length) : ∃ a, p = some a ∧ w.cell? (a.add (k * 6)) = some (.int .i64 l[k].a) ∧ w.cell? ⟨(a.add (k * 6)).block, (a.add (k * 6)).off + 1, none⟩ = some (.int .i64 l[k].b) ∧ w.cell? ⟨(a.add (k * 6)).block, (a.add (k * 6)).off + 2, none⟩ = some (.int .i64 l[k].c) ∧ w.cell? ⟨(a.add (k * 6)).block, (a.add (k * 6)).off + 3, none⟩ = some (.int .i64 l[k].d) ∧ w.cell? ⟨(a.add (k * 6)).block, (a.add (k * 6)).off + 4, none⟩ = some (.int .i64 l[k].e) ∧ w.cell? ⟨(a.add (k * 6)).block, (a.add (k * 6)).off + 5, none⟩ = some (.int .i64 l[k].f) := by
  cases p with
  | none => rw [h.1 rfl] at hk; simp at hk
  | some a => exact ⟨a, rfl, h.2.1 a rfl k hk⟩
theorem bad_any (x : Bx) (w : World) :
    Calls Try.prog 65 #[x.val] w fun e w' => e = .returned (.bool (!x.ok)) ∧ Below w.heap.size w w' := by
  unfold Bx.val Bx.ok
  have h := fun W => valid_any x.a x.b x.c x.d x.e x.f W
  have b0 := al1 w (.cells (C6 x.a x.b x.c x.d x.e x.f) 54)
  go_enter Try.func65, Try.ntmps65
  go_wp2_with (go_at_call 44; (with_reducible refine (h _).mono ?_); rintro e w1 ⟨rfl, hb⟩; replace b0 := belows b0 hb; clear hb)
  go_ret
  exact ⟨rfl, b0⟩
theorem all_dropb {l : List Bx} {k : Nat} (hk : k < l.length) (h : ∀ x ∈ l.take k, x.ok = true) (hv : l[k].ok = true) : ∀ x ∈ l.take (k + 1), x.ok = true := by
  intro x hx
  rw [List.take_succ_eq_append_getElem hk, List.mem_append] at hx
  rcases hx with hx | hx
  · exact h x hx
  · rw [List.mem_singleton.1 hx]; exact hv
set_option maxRecDepth 100000 in
theorem idx_any (p : Option Addr) (l : List Bx) (cap : Nat) (w : World) (hS : Sl w p l) :
    Calls Try.prog 79 #[.slice p l.length cap, .func (.func 65) #[] #[]] w fun e w' => ∃ i : Int, e = .returned (.int .i64 i) ∧ decide (0 ≤ i) = !l.all Bx.ok ∧ Below w.heap.size w w' := by
  have hm := hS.2.2
  unfold maxLen at hm
  go_enter Try.func79, Try.ntmps79
  go_wp2
  go_loopw [8] (fun v wr => ∃ k : Nat, v = .int .i64 k ∧ k ≤ l.length ∧ Hid (∀ x ∈ l.take k, x.ok = true) ∧ Below w.heap.size w wr) (fun v _ => l.length - (intOf v).toNat)
  case atStart => exact ⟨0, rfl, Nat.zero_le _, Lib.hid (by simp), Below.refl _ _⟩
  case round =>
    obtain ⟨k, rfl, hk, hG, hB⟩ := hrel
    by_cases hlt : k < l.length
    · have g1 : decide ((k : Int) < (l.length : Int)) = true := by simp [hlt]
      obtain ⟨a, rfl, c0, c1, c2, c3, c4, c5⟩ := (hS.on hB).at hlt
      have W1 : IntKind.i64.wrap ((k : Int) + 1) = ((k + 1 : Nat) : Int) := by rw [IntWalk.i64_in _ (by omega)]; omega
      have hb := fun w => bad_any l[k] w
      unfold Bx.val at hb
      cases hv : l[k].ok
      · have e : l.all Bx.ok = false := List.all_eq_false.2 ⟨_, List.getElem_mem hlt, by simp [hv]⟩
        simp only [hv, Bool.not_false] at hb
        go_wp2_with (go_at_call 65; (with_reducible refine (hb _).mono ?_); rintro e1 w1 ⟨rfl, hb1⟩)
        go_ret
        exact ⟨_, rfl, by rw [e]; simp, belows hB hb1⟩
      · simp only [hv, Bool.not_true] at hb
        go_wp2_with (go_at_call 65; (with_reducible refine (hb _).mono ?_); rintro e1 w1 ⟨rfl, hb1⟩)
        exact ⟨⟨k + 1, rfl, hlt, Lib.hid (all_dropb hlt hG.out hv), belows hB hb1⟩, by simp [intOf]; omega⟩
    · have g1 : decide ((k : Int) < (l.length : Int)) = false := by simp; omega
      go_wp2
      go_ret
      have := hG.out
      rw [List.take_of_length_le (by omega)] at this
      have e : l.all Bx.ok = true := List.all_eq_true.2 this
      exact ⟨-1, rfl, by rw [e]; rfl, hB⟩
theorem has_any (p : Option Addr) (l : List Bx) (cap : Nat) (w : World) (hS : Sl w p l) :
    Calls Try.prog 64 #[.slice p l.length cap, .func (.func 65) #[] #[]] w fun e w' => e = .returned (.bool (!l.all Bx.ok)) ∧ Below w.heap.size w w' := by
  go_enter Try.func64, Try.ntmps64
  go_wp2_with (go_at_call 79; (with_reducible refine (idx_any p l cap _ hS).mono ?_); rintro e1 w1 ⟨i, rfl, hi, hb1⟩)
  go_ret
  exact ⟨rfl, hb1⟩
theorem allvalid_any (p : Option Addr) (l : List Bx) (cap : Nat) (w : World) (hS : Sl w p l) :
    Calls Try.prog 46 #[.slice p l.length cap] w fun e w' => e = .returned (.bool (l.all Bx.ok)) ∧ Below w.heap.size w w' := by
  go_enter Try.func46, Try.ntmps46
  go_wp2_with (go_at_call 64; (with_reducible refine (has_any p l cap _ hS).mono ?_); rintro e1 w1 ⟨rfl, hb1⟩)
  go_ret
  exact ⟨by simp, hb1⟩
end Go.Proofs.Ytfkcogocaecodaa
namespace Go.Proofs.Ytfkcogocaecodaa
open Go.ChangeShapes Go.WideShapes Go.ChangeAt Go.RowKit
set_option linter.unusedVariables false
set_option linter.unusedSimpArgs false

def C2 (a b : Int) : Array Value := #[.int .i64 a, .int .i64 b]
def B6 (i : Nat) (a b c d e f : Int) : Array Value := #[.int .i64 (if 0 < i then a else 0), .int .i64 (if 1 < i then b else 0), .int .i64 (if 2 < i then c else 0), .int .i64 (if 0 < i then d else 0), .int .i64 (if 1 < i then e else 0), .int .i64 (if 2 < i then f else 0)]
def Lbo (n m i : Nat) (a b c d e f : Int) : List Fb := [⟨m + 1, 128, P6 (n + 1 + 1) 3⟩, ⟨m, 128, P6 (n + 1 + 1) 0⟩, ⟨n + 1 + 1, 54, B6 i a b c d e f⟩, ⟨n + 1, 54, C6 0 0 0 0 0 0⟩, ⟨n, 112, C6 a d b e c f⟩]
set_option maxHeartbeats 4000000 in
set_option maxRecDepth 100000 in
theorem boxOf_any (a b c d e f : Int) (w : World) :
    Calls Try.prog 66 #[.agg #[.int .i64 a, .int .i64 d, .int .i64 b, .int .i64 e, .int .i64 c, .int .i64 f]] w fun E w' => E = .returned (.agg #[.int .i64 a, .int .i64 b, .int .i64 c, .int .i64 d, .int .i64 e, .int .i64 f]) ∧ Below w.heap.size w w' := by
  have E := (((Env.nil w).add w.heap.size 112 (C6 a d b e c f) rfl).add (w.heap.size + 1) 54 (C6 0 0 0 0 0 0) (by simp)).add (w.heap.size + 1 + 1) 54 (C6 0 0 0 0 0 0) (by simp)
  go_enter Try.func66, Try.ntmps66
  go_wp2_with (go_at_call 78; refine (coord_any _ _ _).mono ?_; rintro E w1 ⟨rfl, hb1⟩; replace E := E.on hb1; clear hb1; have C := E.cells; simp [BC, CF, C6, P6] at C)
  clear C
  obtain ⟨W, hW⟩ : ∃ W, W = w1 := ⟨_, rfl⟩
  subst w1
  have L : w.heap.size + 1 + 1 < W.heap.size := E.lt 0 (Nat.zero_lt_succ _)
  have d1 : ¬ W.heap.size = w.heap.size + 1 + 1 := by omega
  have d2 : ¬ W.heap.size = w.heap.size + 1 := by omega
  have d3 : ¬ w.heap.size + 1 + 1 = W.heap.size := by omega
  have d4 : ¬ w.heap.size + 1 = W.heap.size := by omega
  replace E := (E.add W.heap.size 128 (P6 (w.heap.size + 1 + 1) 0) rfl).add (W.heap.size + 1) 128 (P6 (w.heap.size + 1 + 1) 3) (by simp)
  go_loopw [13] (fun v wr => ∃ i : Nat, v = .int .i64 (i : Int) ∧ i ≤ 3 ∧ Env w wr (Lbo w.heap.size W.heap.size i a b c d e f)) (fun v _ => 3 - (intOf v).toNat)
  case atStart => exact ⟨0, rfl, by omega, E⟩
  case round =>
    clear E
    obtain ⟨i, rfl, hi, E⟩ := hrel
    rcases (by omega : i = 0 ∨ i = 1 ∨ i = 2 ∨ i = 3) with rfl | rfl | rfl | rfl
    · have C := E.cells
      simp [BC, CF, Lbo, C6, P6, B6, S6] at C
      have ix := fun W => six0 a d b e c f W
      go_wp2
      go_region_law (fail)
      all_goals go_wp2
      all_goals go_roundw
      all_goals first | (exact ⟨1, rfl, by omega, (((E.add _ 96 (C2 a d) rfl).put 3 0 _ rfl).put 3 3 _ rfl).tail.drw⟩) | (exact ⟨1, rfl, by omega, ((E.put 2 0 _ rfl).put 2 3 _ rfl).drw.more _⟩) | (exact ⟨1, rfl, by omega, ((E.put 2 0 _ rfl).put 2 3 _ rfl).more _⟩) | (simp [intOf])
    · have C := E.cells
      simp [BC, CF, Lbo, C6, P6, B6, S6] at C
      have ix := fun W => six1 a d b e c f W
      go_wp2
      go_region_law (fail)
      all_goals go_wp2
      all_goals go_roundw
      all_goals first | (exact ⟨2, rfl, by omega, (((E.add _ 96 (C2 b e) rfl).put 3 1 _ rfl).put 3 4 _ rfl).tail.drw⟩) | (exact ⟨2, rfl, by omega, ((E.put 2 1 _ rfl).put 2 4 _ rfl).drw.more _⟩) | (exact ⟨2, rfl, by omega, ((E.put 2 1 _ rfl).put 2 4 _ rfl).more _⟩) | (simp [intOf])
    · have C := E.cells
      simp [BC, CF, Lbo, C6, P6, B6, S6] at C
      have ix := fun W => six2 a d b e c f W
      go_wp2
      go_region_law (fail)
      all_goals go_wp2
      all_goals go_roundw
      all_goals first | (exact ⟨3, rfl, by omega, (((E.add _ 96 (C2 c f) rfl).put 3 2 _ rfl).put 3 5 _ rfl).tail.drw⟩) | (exact ⟨3, rfl, by omega, ((E.put 2 2 _ rfl).put 2 5 _ rfl).drw.more _⟩) | (exact ⟨3, rfl, by omega, ((E.put 2 2 _ rfl).put 2 5 _ rfl).more _⟩) | (simp [intOf])
    · have C := E.cells
      simp [BC, CF, Lbo, C6, P6, B6] at C
      go_wp2
      refine bodyPost_ret (v := .agg #[.int .i64 a, .int .i64 b, .int .i64 c, .int .i64 d, .int .i64 e, .int .i64 f]) (by simp [results, Try.results66, go_sem, C]) rfl ⟨rfl, ?_⟩
      exact (E.six 3 rfl).1
end Go.Proofs.Ytfkcogocaecodaa
namespace Go.Proofs.Ytfkcogocaecodaa
open Go.ChangeShapes Go.WideShapes Go.ChangeAt Go.RowKit
set_option linter.unusedVariables false
set_option linter.unusedSimpArgs false

section
variable {w W : World} {l : List Fb} {A B : Array Value} {g k : Nat} {t : TypeId} {z0 z1 z2 z3 z4 z5 y0 y1 y2 y3 y4 y5 u0 u1 u2 u3 u4 u5 v0 v1 v2 v3 v4 v5 : Value}
theorem tw1 (E : Env w W l) : Env w ((W.alloc (.cells A t)).alloc (.cells B t)) (⟨W.heap.size + 1, t, B⟩ :: ⟨W.heap.size, t, A⟩ :: l) := (E.add _ t A rfl).add _ t B (sz1 rfl)
theorem tw2 (E : Env w W l) : Env w ((W.alloc (.cells B t)).alloc (.cells A t)) (⟨W.heap.size, t, B⟩ :: ⟨W.heap.size + 1, t, A⟩ :: l) := ((E.add _ t B rfl).add _ t A (sz1 rfl)).swap
theorem tw3 (E : Env w W (⟨g, t, #[z0, z1, z2, z3, z4, z5]⟩ :: l)) : Env w (((((((W.setCell ⟨g, 0, none⟩ u0).setCell ⟨g, 1, none⟩ u1).setCell ⟨g, 2, none⟩ u2).setCell ⟨g, 3, none⟩ u3).setCell ⟨g, 4, none⟩ u4).setCell ⟨g, 5, none⟩ u5).alloc (.cells B t)) (⟨W.heap.size, t, B⟩ :: ⟨g, t, #[u0, u1, u2, u3, u4, u5]⟩ :: l) := by
  have h := (E.six (u0 := u0) (u1 := u1) (u2 := u2) (u3 := u3) (u4 := u4) (u5 := u5) 0 rfl).add W.heap.size t B (by simp [numB])
  exact h
theorem tw4 (E : Env w W (⟨k, t, #[z0, z1, z2, z3, z4, z5]⟩ :: l)) : Env w (((((((W.setCell ⟨k, 0, none⟩ u0).setCell ⟨k, 1, none⟩ u1).setCell ⟨k, 2, none⟩ u2).setCell ⟨k, 3, none⟩ u3).setCell ⟨k, 4, none⟩ u4).setCell ⟨k, 5, none⟩ u5).alloc (.cells A t)) (⟨k, t, #[u0, u1, u2, u3, u4, u5]⟩ :: ⟨W.heap.size, t, A⟩ :: l) := (tw3 E).swap
theorem tw5 (E : Env w W (⟨k, t, #[z0, z1, z2, z3, z4, z5]⟩ :: l)) : Env w (((((((W.alloc (.cells A t)).setCell ⟨k, 0, none⟩ u0).setCell ⟨k, 1, none⟩ u1).setCell ⟨k, 2, none⟩ u2).setCell ⟨k, 3, none⟩ u3).setCell ⟨k, 4, none⟩ u4).setCell ⟨k, 5, none⟩ u5) (⟨k, t, #[u0, u1, u2, u3, u4, u5]⟩ :: ⟨W.heap.size, t, A⟩ :: l) := by
  have h := (E.add W.heap.size t A rfl).swap.six (u0 := u0) (u1 := u1) (u2 := u2) (u3 := u3) (u4 := u4) (u5 := u5) 0 rfl
  exact h
theorem tw6 (E : Env w W (⟨g, t, #[z0, z1, z2, z3, z4, z5]⟩ :: ⟨k, t, #[y0, y1, y2, y3, y4, y5]⟩ :: l)) : Env w ((((((((((((W.setCell ⟨g, 0, none⟩ u0).setCell ⟨g, 1, none⟩ u1).setCell ⟨g, 2, none⟩ u2).setCell ⟨g, 3, none⟩ u3).setCell ⟨g, 4, none⟩ u4).setCell ⟨g, 5, none⟩ u5).setCell ⟨k, 0, none⟩ v0).setCell ⟨k, 1, none⟩ v1).setCell ⟨k, 2, none⟩ v2).setCell ⟨k, 3, none⟩ v3).setCell ⟨k, 4, none⟩ v4).setCell ⟨k, 5, none⟩ v5) (⟨k, t, #[v0, v1, v2, v3, v4, v5]⟩ :: ⟨g, t, #[u0, u1, u2, u3, u4, u5]⟩ :: l) := by
  have h := ((E.six (u0 := u0) (u1 := u1) (u2 := u2) (u3 := u3) (u4 := u4) (u5 := u5) 0 rfl).six (u0 := v0) (u1 := v1) (u2 := v2) (u3 := v3) (u4 := v4) (u5 := v5) 1 rfl).swap
  exact h
theorem tw7 (E : Env w W (⟨k, t, #[y0, y1, y2, y3, y4, y5]⟩ :: ⟨g, t, #[z0, z1, z2, z3, z4, z5]⟩ :: l)) : Env w ((((((((((((W.setCell ⟨g, 0, none⟩ u0).setCell ⟨g, 1, none⟩ u1).setCell ⟨g, 2, none⟩ u2).setCell ⟨g, 3, none⟩ u3).setCell ⟨g, 4, none⟩ u4).setCell ⟨g, 5, none⟩ u5).setCell ⟨k, 0, none⟩ v0).setCell ⟨k, 1, none⟩ v1).setCell ⟨k, 2, none⟩ v2).setCell ⟨k, 3, none⟩ v3).setCell ⟨k, 4, none⟩ v4).setCell ⟨k, 5, none⟩ v5) (⟨k, t, #[v0, v1, v2, v3, v4, v5]⟩ :: ⟨g, t, #[u0, u1, u2, u3, u4, u5]⟩ :: l) := tw6 E.swap
end
end Go.Proofs.Ytfkcogocaecodaa
namespace Go.Proofs.Ytfkcogocaecodaa
open Go.ChangeShapes Go.WideShapes Go.ChangeAt Go.RowKit
set_option linter.unusedVariables false
set_option linter.unusedSimpArgs false

def LCh (n g k i : Nat) (a b c d e f a' b' c' d' e' f' x0 x1 y0 y1 z0 z1 : Int) : List Fb := [⟨k, 112, #[.int .i64 a', .int .i64 d', .int .i64 b', .int .i64 e', .int .i64 c', .int .i64 f']⟩, ⟨g, 112, #[.int .i64 (if 0 < i then x0 else a), .int .i64 (if 0 < i then x1 else d), .int .i64 (if 1 < i then y0 else b), .int .i64 (if 1 < i then y1 else e), .int .i64 (if 2 < i then z0 else c), .int .i64 (if 2 < i then z1 else f)]⟩, ⟨n + 1 + 1, 54, #[.int .i64 0, .int .i64 0, .int .i64 0, .int .i64 0, .int .i64 0, .int .i64 0]⟩, ⟨n + 1, 54, #[.int .i64 a', .int .i64 b', .int .i64 c', .int .i64 d', .int .i64 e', .int .i64 f']⟩, ⟨n, 54, #[.int .i64 a, .int .i64 b, .int .i64 c, .int .i64 d, .int .i64 e, .int .i64 f]⟩]
set_option maxHeartbeats 8000000 in
set_option maxRecDepth 100000 in
theorem hull2_f (a b c d e f a' b' c' d' e' f' x0 x1 y0 y1 z0 z1 : Int) (w : World) (k0 : Fn 48 #[.agg #[.int .i64 a, .int .i64 d], .agg #[.int .i64 a', .int .i64 d']] (.agg #[.int .i64 x0, .int .i64 x1])) (k1 : Fn 48 #[.agg #[.int .i64 b, .int .i64 e], .agg #[.int .i64 b', .int .i64 e']] (.agg #[.int .i64 y0, .int .i64 y1])) (k2 : Fn 48 #[.agg #[.int .i64 c, .int .i64 f], .agg #[.int .i64 c', .int .i64 f']] (.agg #[.int .i64 z0, .int .i64 z1])) :
    Calls Try.prog 47 #[.agg #[.int .i64 a, .int .i64 b, .int .i64 c, .int .i64 d, .int .i64 e, .int .i64 f], .agg #[.int .i64 a', .int .i64 b', .int .i64 c', .int .i64 d', .int .i64 e', .int .i64 f'], .func (.func 48) #[] #[]] w fun E w' => E = .returned (.agg #[.int .i64 x0, .int .i64 y0, .int .i64 z0, .int .i64 x1, .int .i64 y1, .int .i64 z1]) ∧ Below w.heap.size w w' := by
  unfold Fn at k0 k1 k2
  have E := (((Env.nil w).add w.heap.size 54 #[.int .i64 a, .int .i64 b, .int .i64 c, .int .i64 d, .int .i64 e, .int .i64 f] rfl).add (w.heap.size + 1) 54 #[.int .i64 a', .int .i64 b', .int .i64 c', .int .i64 d', .int .i64 e', .int .i64 f'] (by simp)).add (w.heap.size + 1 + 1) 54 #[.int .i64 0, .int .i64 0, .int .i64 0, .int .i64 0, .int .i64 0, .int .i64 0] (by simp)
  have h1 := fun W => sides_any a b c d e f W
  have h2 := fun W => sides_any a' b' c' d' e' f' W
  have hg := fun W => boxOf_any x0 y0 z0 x1 y1 z1 W
  go_enter Try.func47, Try.ntmps47
  go_upto_region 1 with fail
  have E' : ∃ W0, W0 = _ ∧ Env w W0 _ := ⟨_, rfl, E⟩
  clear E
  obtain ⟨W0, hW0, E⟩ := E'
  rw [← hW0]
  clear hW0
  have C := E.cells
  simp [BC, CF] at C
  go_cut [7, 8] (fun s t wx => ∃ g k : Nat, s = .pointer (some ⟨g, 0, none⟩) ∧ t = .pointer (some ⟨k, 0, none⟩) ∧ Env w wx [⟨k, 112, #[.int .i64 a', .int .i64 d', .int .i64 b', .int .i64 e', .int .i64 c', .int .i64 f']⟩, ⟨g, 112, #[.int .i64 a, .int .i64 d, .int .i64 b, .int .i64 e, .int .i64 c, .int .i64 f]⟩, ⟨w.heap.size + 1 + 1, 54, #[.int .i64 0, .int .i64 0, .int .i64 0, .int .i64 0, .int .i64 0, .int .i64 0]⟩, ⟨w.heap.size + 1, 54, #[.int .i64 a', .int .i64 b', .int .i64 c', .int .i64 d', .int .i64 e', .int .i64 f']⟩, ⟨w.heap.size, 54, #[.int .i64 a, .int .i64 b, .int .i64 c, .int .i64 d, .int .i64 e, .int .i64 f]⟩])
  case first =>
    go_region_law (go_simp; go_at_call 61; first
      | ((with_reducible refine (h1 _).mono ?_); rintro X w1 ⟨rfl, hb⟩; first
          | with_reducible have E := E.on hb
          | with_reducible have E := E.drw.on hb
          | with_reducible have E := (E.add _ _ _ rfl).drw.on hb
          | with_reducible have E := ((E.add _ _ _ rfl).add _ _ _ (sz1 rfl)).drw.on hb
          | with_reducible have E := (E.add _ _ _ rfl).on hb
          | with_reducible have E := ((E.add _ _ _ rfl).add _ _ _ (sz1 rfl)).on hb
         have C := E.cells
         simp only [BC, CF, Nat.reduceAdd] at C
         clear hb)
      | ((with_reducible refine (h2 _).mono ?_); rintro X w1 ⟨rfl, hb⟩; first
          | with_reducible have E := E.on hb
          | with_reducible have E := E.drw.on hb
          | with_reducible have E := (E.add _ _ _ rfl).drw.on hb
          | with_reducible have E := ((E.add _ _ _ rfl).add _ _ _ (sz1 rfl)).drw.on hb
          | with_reducible have E := (E.add _ _ _ rfl).on hb
          | with_reducible have E := ((E.add _ _ _ rfl).add _ _ _ (sz1 rfl)).on hb
         have C := E.cells
         simp only [BC, CF, Nat.reduceAdd] at C
         clear hb))
    all_goals (go_wp2_with fail)
    all_goals go_meet
    all_goals refine ⟨_, _, rfl, rfl, ?_⟩
    all_goals (repeat with_reducible refine Env.drw ?_)
    all_goals first
      | with_reducible exact tw1 E
      | with_reducible exact tw2 E
      | with_reducible exact tw3 E
      | with_reducible exact tw4 E
      | with_reducible exact tw5 E
      | with_reducible exact tw6 E
      | with_reducible exact tw7 E
  case rest =>
    clear E C h1 h2
    obtain ⟨g, k, rfl, rfl, E⟩ := hcut
    go_wp2
    go_loopw [14] (fun v wr => ∃ i : Nat, v = .int .i64 (i : Int) ∧ i ≤ 3 ∧ Env w wr (LCh w.heap.size g k i a b c d e f a' b' c' d' e' f' x0 x1 y0 y1 z0 z1)) (fun v _ => 3 - (intOf v).toNat)
    case atStart => exact ⟨0, rfl, by omega, E⟩
    case round =>
    clear E
    obtain ⟨i, rfl, hi, E⟩ := hrel
    rcases (by omega : i = 0 ∨ i = 1 ∨ i = 2 ∨ i = 3) with rfl | rfl | rfl | rfl
    · have C := E.cells
      simp [BC, CF, LCh] at C
      go_wp2
      go_region_law (go_simp; go_at_call 48; (with_reducible refine (k0 _).mono ?_); rintro X w1 ⟨rfl, hb⟩; (first | have E := E.drw.on hb | have E := E.on hb); have C := E.cells; simp [BC, CF, LCh] at C; clear hb)
      all_goals go_wp2
      all_goals go_roundw
      all_goals first | exact ⟨1, rfl, by omega, (E.put 1 0 _ rfl).put 1 1 _ rfl⟩ | (simp [intOf])
    · have C := E.cells
      simp [BC, CF, LCh] at C
      go_wp2
      go_region_law (go_simp; go_at_call 48; (with_reducible refine (k1 _).mono ?_); rintro X w1 ⟨rfl, hb⟩; (first | have E := E.drw.on hb | have E := E.on hb); have C := E.cells; simp [BC, CF, LCh] at C; clear hb)
      all_goals go_wp2
      all_goals go_roundw
      all_goals first | exact ⟨2, rfl, by omega, (E.put 1 2 _ rfl).put 1 3 _ rfl⟩ | (simp [intOf])
    · have C := E.cells
      simp [BC, CF, LCh] at C
      go_wp2
      go_region_law (go_simp; go_at_call 48; (with_reducible refine (k2 _).mono ?_); rintro X w1 ⟨rfl, hb⟩; (first | have E := E.drw.on hb | have E := E.on hb); have C := E.cells; simp [BC, CF, LCh] at C; clear hb)
      all_goals go_wp2
      all_goals go_roundw
      all_goals first | exact ⟨3, rfl, by omega, (E.put 1 4 _ rfl).put 1 5 _ rfl⟩ | (simp [intOf])
    · have C := E.cells
      simp [BC, CF, LCh] at C
      go_wp2_with (go_at_call 66; (with_reducible refine (hg _).mono ?_); rintro X w3 ⟨rfl, hb⟩; replace E := E.on hb; replace C := E.cells; simp [BC, CF, LCh] at C; clear hb)
      refine bodyPost_ret (v := .agg #[.int .i64 x0, .int .i64 y0, .int .i64 z0, .int .i64 x1, .int .i64 y1, .int .i64 z1]) (by simp [results, Try.results47, go_sem, C]) rfl ⟨rfl, ?_⟩
      exact (E.six 2 rfl).1
theorem hull2_any (a b c d e f a' b' c' d' e' f' : Int) (w : World) :
    Calls Try.prog 47 #[.agg #[.int .i64 a, .int .i64 b, .int .i64 c, .int .i64 d, .int .i64 e, .int .i64 f], .agg #[.int .i64 a', .int .i64 b', .int .i64 c', .int .i64 d', .int .i64 e', .int .i64 f'], .func (.func 48) #[] #[]] w fun E w' => E = .returned (.agg #[.int .i64 (mn a a'), .int .i64 (mn b b'), .int .i64 (mn c c'), .int .i64 (mx d d'), .int .i64 (mx e e'), .int .i64 (mx f f')]) ∧ Below w.heap.size w w' :=
  hull2_f _ _ _ _ _ _ _ _ _ _ _ _ _ _ _ _ _ _ w (fun W => sdhull_any _ _ _ _ W) (fun W => sdhull_any _ _ _ _ W) (fun W => sdhull_any _ _ _ _ W)
end Go.Proofs.Ytfkcogocaecodaa
namespace Go.Proofs.Ytfkcogocaecodaa
open Go.ChangeShapes Go.WideShapes Go.ChangeAt Go.RowKit
set_option linter.unusedVariables false
set_option linter.unusedSimpArgs false

def zB : Bx := ⟨0, 0, 0, 0, 0, 0⟩
def meetB (x y : Bx) : Bx := ⟨mx x.a y.a, mx x.b y.b, mx x.c y.c, mn x.d y.d, mn x.e y.e, mn x.f y.f⟩
def hullB (x y : Bx) : Bx := ⟨mn x.a y.a, mn x.b y.b, mn x.c y.c, mx x.d y.d, mx x.e y.e, mx x.f y.f⟩
def growB (x : Bx) (n : Int) : Bx := ⟨x.a - n, x.b - n, x.c - n, x.d + n, x.e + n, x.f + n⟩
end Go.Proofs.Ytfkcogocaecodaa
namespace Go.Proofs.Ytfkcogocaecodaa
open Go.ChangeShapes Go.WideShapes Go.ChangeAt Go.RowKit
set_option linter.unusedVariables false
set_option linter.unusedSimpArgs false

theorem Sl.tail {w : World} {a : Addr} {x : Bx} {l : List Bx} (h : Sl w (some a) (x :: l)) : Sl w (some (a.add 6)) l := by
  refine ⟨by simp, fun b e => ?_, by have := h.2.2; simp at this ⊢; omega⟩
  cases e
  intro i hi
  have := h.2.1 a rfl (i + 1) (by simp; omega)
  have e : (a.add 6).add (i * 6) = a.add ((i + 1) * 6) := by rw [Go.Deep.add_add]; congr 1; omega
  rw [e]
  simpa using this
set_option maxHeartbeats 8000000 in
set_option maxRecDepth 100000 in
theorem Hull_ok (a : Addr) (x : Bx) (l : List Bx) (cap : Nat) (w : World) (hS : Sl w (some a) (x :: l)) (hl : (x :: l).all Bx.ok = true) (hc : l.length + 1 ≤ cap) : Calls Try.prog 22 #[.slice (some a) (l.length + 1) cap] w fun e w' => e = .returned (.tuple #[(l.foldl hullB x).val, .int .i64 0]) ∧ Below w.heap.size w w' := by
  have hm := hS.2.2
  unfold maxLen at hm
  simp only [List.length_cons] at hm
  have E := (Env.nil w).add w.heap.size 54 #[.int .i64 0, .int .i64 0, .int .i64 0, .int .i64 0, .int .i64 0, .int .i64 0] rfl
  have hS1 := hS.on (al1 w (.cells #[.int .i64 0, .int .i64 0, .int .i64 0, .int .i64 0, .int .i64 0, .int .i64 0] 54))
  have h49 : ∀ W, Sl W (some a) (x :: l) → Calls Try.prog 46 #[.slice (some a) (l.length + 1) cap] W fun e w' => e = .returned (.bool true) ∧ Below W.heap.size W w' := fun W h => by
    have := allvalid_any (some a) (x :: l) cap W h
    rw [hl] at this; exact this
  have h47 : ∀ (m y : Bx) W, Calls Try.prog 47 #[m.val, y.val, .func (.func 48) #[] #[]] W fun E w' => E = .returned (hullB m y).val ∧ Below W.heap.size W w' := fun m y W => hull2_any m.a m.b m.c m.d m.e m.f y.a y.b y.c y.d y.e y.f W
  have q0 : ((l.length : Int) + 1 == 0) = false := by simp; omega
  have q1 : decide ((l.length : Int) + 1 = 0) = false := by simp; omega
  obtain ⟨RES, hRES⟩ : ∃ R : Bx, R = l.foldl hullB x := ⟨_, rfl⟩
  rw [← hRES]
  have hr0 := Lib.hid hRES
  clear hRES
  unfold Bx.val at *
  go_enter Try.func22, Try.ntmps22
  go_upto_region 5 with (go_at_call 46; (with_reducible refine (h49 _ hS1).mono ?_); rintro X w1 ⟨rfl, hb⟩; replace E := E.on hb; have hS2 := hS1.on hb; clear hb)
  obtain ⟨a', ea, c0, c1, c2, c3, c4, c5⟩ := hS2.at (k := 0) (by simp)
  cases ea
  have ez : a.add 0 = a := by simp [Addr.add]; try (cases a; split <;> simp_all)
  simp only [Nat.zero_mul, ez, List.getElem_cons_zero] at c0 c1 c2 c3 c4 c5
  have hS3 := hS2.tail
  replace E := E.add w1.heap.size 54 #[.int .i64 x.a, .int .i64 x.b, .int .i64 x.c, .int .i64 x.d, .int .i64 x.e, .int .i64 x.f] rfl
  rcases l with _ | ⟨y, l⟩
  · have C := E.cells
    simp [BC, CF] at C
    have fin := fun (u0 u1 u2 u3 u4 u5 : Value) => (E.six (u0 := u0) (u1 := u1) (u2 := u2) (u3 := u3) (u4 := u4) (u5 := u5) 1 rfl).1
    simp only [List.length_nil, List.foldl_nil] at *
    go_wp2
    all_goals (
      go_loopw [21] (fun v wr => v = .int .i64 0 ∧ Env w wr [⟨w1.heap.size, 54, #[.int .i64 x.a, .int .i64 x.b, .int .i64 x.c, .int .i64 x.d, .int .i64 x.e, .int .i64 x.f]⟩, ⟨w.heap.size, 54, #[.int .i64 0, .int .i64 0, .int .i64 0, .int .i64 0, .int .i64 0, .int .i64 0]⟩]) (fun _ _ => 0)
      case atStart => exact ⟨rfl, E⟩
      case round =>
        clear E C fin
        obtain ⟨rfl, E⟩ := hrel
        have e := hr0.out
        subst e
        have C := E.cells
        simp [BC, CF] at C
        go_wp2
        refine bodyPost_ret (v := .tuple #[.agg #[.int .i64 RES.a, .int .i64 RES.b, .int .i64 RES.c, .int .i64 RES.d, .int .i64 RES.e, .int .i64 RES.f], .int .i64 0]) (by simp [results, Try.results22, go_sem, C]) rfl ⟨rfl, ?_⟩
        exact (E.six 1 rfl).1)
  · have hS4 : Sl w1 (some ⟨a.block, a.off + 6, none⟩) (y :: l) := by
      have := hS3
      rwa [show a.add 6 = ⟨a.block, a.off + 6, none⟩ by simp [Addr.add]] at this
    generalize hL : y :: l = L at *
    have hne : 0 < L.length := by rw [← hL]; simp
    have k1 : 1 < cap := by omega
    have k2 : ¬ cap = 1 := by omega
    have k3 : ¬ cap - 1 = 0 := by omega
    clear hL hS2 hS3 hS1 hS h49
    go_wp2
    clear c0 c1 c2 c3 c4 c5 ez
    go_loopw [21] (fun v wr => ∃ (k : Nat) (m : Bx), v = .int .i64 (k : Int) ∧ k ≤ L.length ∧ Hid (m = (L.take k).foldl hullB x) ∧ Env w wr [⟨w1.heap.size, 54, #[.int .i64 m.a, .int .i64 m.b, .int .i64 m.c, .int .i64 m.d, .int .i64 m.e, .int .i64 m.f]⟩, ⟨w.heap.size, 54, #[.int .i64 0, .int .i64 0, .int .i64 0, .int .i64 0, .int .i64 0, .int .i64 0]⟩] ∧ Below w1.heap.size w1 wr) (fun v _ => L.length - (intOf v).toNat)
    case atStart => exact ⟨0, x, rfl, Nat.zero_le _, Lib.hid rfl, E, al1 w1 _⟩
    case round =>
      clear E
      obtain ⟨k, m, rfl, hk, hM, E, hB⟩ := hrel
      by_cases hlt : k < L.length
      · have g1 : decide ((k : Int) < (L.length : Int)) = true := by simp [hlt]
        obtain ⟨a', ea, c0, c1, c2, c3, c4, c5⟩ := (hS4.on hB).at hlt
        cases ea
        have ad : (⟨a.block, a.off + 6, none⟩ : Addr).add (k * 6) = ⟨a.block, a.off + 6 + k * 6, none⟩ := by unfold Addr.add; split <;> simp_all
        simp only [ad] at c0 c1 c2 c3 c4 c5
        have W1 : IntKind.i64.wrap ((k : Int) + 1) = ((k + 1 : Nat) : Int) := by rw [IntWalk.i64_in _ (by omega)]; omega
        have h := fun W => h47 m L[k] W
        have eM : hullB m L[k] = (L.take (k + 1)).foldl hullB x := by rw [List.take_succ_eq_append_getElem hlt, List.foldl_append, ← hM.out]; rfl
        have EM := Lib.hid eM
        clear eM
        generalize hullB m L[k] = m2 at *
        have C := E.cells
        simp [BC, CF] at C
        go_wp2_with (go_at_call 47; (with_reducible refine (h _).mono ?_); rintro X w4 ⟨rfl, hb⟩; replace E := (E.more _).on hb; replace C := E.cells; simp [BC, CF] at C; have hB2 := belows (al hB _) hb; clear hb)
        exact ⟨⟨k + 1, m2, rfl, hlt, EM, E.six 0 rfl, (((((hB2.setCell (by dsimp only; omega) _).setCell (by dsimp only; omega) _).setCell (by dsimp only; omega) _).setCell (by dsimp only; omega) _).setCell (by dsimp only; omega) _).setCell (by dsimp only; omega) _⟩, by simp [intOf]; omega⟩
      · have g1 : decide ((k : Int) < (L.length : Int)) = false := by simp; omega
        have e0 := hM.out
        rw [List.take_of_length_le (by omega)] at e0
        have e := e0.trans hr0.out.symm
        clear e0 hM
        subst e
        have C := E.cells
        simp [BC, CF] at C
        go_wp2
        refine bodyPost_ret (v := .tuple #[.agg #[.int .i64 m.a, .int .i64 m.b, .int .i64 m.c, .int .i64 m.d, .int .i64 m.e, .int .i64 m.f], .int .i64 0]) (by simp [results, Try.results22, go_sem, C]) rfl ⟨rfl, ?_⟩
        exact (E.six 1 rfl).1
end Go.Proofs.Ytfkcogocaecodaa
namespace Go.Proofs.Ytfkcogocaecodaa
open Go.ChangeShapes Go.WideShapes Go.ChangeAt Go.RowKit
set_option linter.unusedVariables false
set_option linter.unusedSimpArgs false

def cb (x : Bx) : List Value := [.int .i64 x.a, .int .i64 x.b, .int .i64 x.c, .int .i64 x.d, .int .i64 x.e, .int .i64 x.f]
theorem cbl (x : Bx) : (cb x).length = 6 := rfl
def bxp (p : Pt) : Bx := ⟨p.x, p.y, p.z, p.x, p.y, p.z⟩
def hullL : List Bx → Bx
  | [] => zB
  | x :: l => l.foldl hullB x
theorem bxp_ok {p : Pt} (h : p.bd 524288) : (bxp p).ok = true := by
  obtain ⟨⟨a, b⟩, ⟨c, d⟩, e, f⟩ := h
  unfold Bx.ok bxp vB sdV
  simp; omega
theorem sl_own {B : Nat} {w : World} {v : Value} {l : List Bx} {n : Nat} (h : Own cb 54 6 B w v l) (hl : l.length = n + 1) (hm : n + 1 ≤ maxLen) : ∃ g c, v = .slice (some ⟨g, 0, none⟩) (n + 1) c ∧ Sl w (some ⟨g, 0, none⟩) l ∧ n + 1 ≤ c := by
  have hr := Own.rd cbl h
  obtain ⟨hl2, ⟨rfl, h0⟩ | ⟨g, cap, cur, rfl, hB, hg, hn, hm2, hs, ht⟩⟩ := h
  · omega
  · rw [hl] at hn
    refine ⟨g, cap, by rw [hl], ⟨fun h => (by cases h), fun a ha => ?_, (by omega)⟩, hn⟩
    cases ha
    obtain ⟨q, c, e, k⟩ := hr
    simp only [Value.slice.injEq] at e
    obtain ⟨rfl, -, rfl⟩ := e
    intro i hi
    obtain ⟨g', e, hc⟩ := k i hi
    cases e
    have ad : (⟨g, 0, none⟩ : Addr).add (i * 6) = ⟨g, i * 6, none⟩ := by rw [Addr.add_lit, Nat.zero_add]
    rw [ad]
    have h0 := hc 0 (by omega)
    have h1 := hc 1 (by omega)
    have h2 := hc 2 (by omega)
    have h3 := hc 3 (by omega)
    have h4 := hc 4 (by omega)
    have h5 := hc 5 (by omega)
    simp [cb] at h0 h1 h2 h3 h4 h5
    exact ⟨h0, h1, h2, h3, h4, h5⟩
theorem info42 : (Try.prog.info? 54).map (fun i => (i.zero, i.size, i.bytes)) = some (some (.agg #[.int .i64 0, .int .i64 0, .int .i64 0, .int .i64 0, .int .i64 0, .int .i64 0]), 6, 48) := by kernel_rfl
theorem Env.grow {w w1 w2 : World} {l : List Fb} {row : Option Nat} (E : Env w w1 l) (hg : w1.grownBy w2 row) (hr : ∀ k, row = some k → (∀ y ∈ l, y.g ≠ k) ∧ w.heap.size ≤ k) : Env w w2 l := by
  refine ⟨E.1.grown hg E.1.size (fun k hk => (hr k hk).2), ?_⟩
  have h := E.2
  have hr1 : ∀ k, row = some k → ∀ y ∈ l, y.g ≠ k := fun k hk => (hr k hk).1
  clear hr E
  induction l with
  | nil => trivial
  | cons x l ih =>
    obtain ⟨h1, h2, h3, h4⟩ := h
    exact ⟨h1, Has.grown_ h2 hg (fun e => hr1 x.g e.symm x (List.mem_cons_self ..) rfl), h3, ih h4 (fun k hk y hy => hr1 k hk y (List.mem_cons_of_mem _ hy))⟩
end Go.Proofs.Ytfkcogocaecodaa
