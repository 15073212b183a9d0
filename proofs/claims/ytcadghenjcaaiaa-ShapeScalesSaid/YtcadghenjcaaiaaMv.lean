/- Points; moved. -/
import Derived.Test.YtcadghenjcaaiaaLg
import Derived.Test.YtcadghenjcaaiaaRw
namespace Go.Proofs.Ytcadghenjcaaiaa
open Go.ChangeShapes Go.WideShapes Go.ChangeAt Go.RowKit
set_option linter.unusedVariables false
set_option linter.unusedSimpArgs false

structure Pt where
  x : Int
  y : Int
  z : Int
deriving DecidableEq
def Pt.val (p : Pt) : Value := .agg #[.int .i64 p.x, .int .i64 p.y, .int .i64 p.z]
def pc (p : Pt) : List Value := [.int .i64 p.x, .int .i64 p.y, .int .i64 p.z]
theorem pl (p : Pt) : (pc p).length = 3 := rfl
def Pt.bd (p : Pt) (L : Int) : Prop := (-L ≤ p.x ∧ p.x ≤ L) ∧ (-L ≤ p.y ∧ p.y ≤ L) ∧ (-L ≤ p.z ∧ p.z ≤ L)
def mv (p : Pt) (c n : Int) : Pt :=
  if c = 88 then ⟨p.x + n, p.y, p.z⟩ else if c = 120 then ⟨p.x - n, p.y, p.z⟩ else if c = 89 then ⟨p.x, p.y + n, p.z⟩
  else if c = 121 then ⟨p.x, p.y - n, p.z⟩ else if c = 90 then ⟨p.x, p.y, p.z + n⟩ else p
theorem mv_bd {p : Pt} {c n L : Int} (h : p.bd L) (h0 : 0 ≤ n) : (mv p c n).bd (L + n) := by
  obtain ⟨⟨a, b⟩, ⟨d, e⟩, f, g⟩ := h
  unfold mv Pt.bd
  repeat' split
  all_goals ((try dsimp only); omega)
set_option maxHeartbeats 4000000 in
set_option maxRecDepth 100000 in
theorem moved_any (p : Pt) (c n : Int) (w : World) (hp : p.bd 1000000000) (hn : 0 ≤ n ∧ n ≤ 1000000000) :
    Calls Try.prog 34 #[p.val, .int .u8 c, .int .i64 n] w fun e w' => e = .returned (mv p c n).val ∧ Below w.heap.size w w' := by
  obtain ⟨⟨a, b⟩, ⟨d, e⟩, f, g⟩ := hp
  have E := ((Env.nil w).add w.heap.size 40 #[.int .i64 p.x, .int .i64 p.y, .int .i64 p.z] rfl).add (w.heap.size + 1) 40 #[.int .i64 0, .int .i64 0, .int .i64 0] (by simp)
  have W1 : IntKind.i64.wrap (p.x + n) = p.x + n := IntWalk.i64_in _ (by omega)
  have W2 : IntKind.i64.wrap (p.x - n) = p.x - n := IntWalk.i64_in _ (by omega)
  have W3 : IntKind.i64.wrap (p.y + n) = p.y + n := IntWalk.i64_in _ (by omega)
  have W4 : IntKind.i64.wrap (p.y - n) = p.y - n := IntWalk.i64_in _ (by omega)
  have W5 : IntKind.i64.wrap (p.z + n) = p.z + n := IntWalk.i64_in _ (by omega)
  unfold mv Pt.val
  clear a b d e f g hn
  by_cases c0 : c = 88
  · subst c0
    try rw [if_neg (by decide)]
    try rw [if_neg (by decide)]
    try rw [if_neg (by decide)]
    try rw [if_neg (by decide)]
    try rw [if_pos rfl]
    go_enter Try.func34, Try.ntmps34
    go_wp2
    exact bodyPost_ret (v := .agg #[.int .i64 (p.x + n), .int .i64 (p.y), .int .i64 (p.z)]) (by simp [results, Try.results34, go_sem]) rfl ⟨rfl, al (al1 w _) _⟩
  rw [if_neg c0]
  have b0 := beq_eq_false_iff_ne.2 c0
  by_cases c1 : c = 120
  · subst c1
    try rw [if_neg (by decide)]
    try rw [if_neg (by decide)]
    try rw [if_neg (by decide)]
    try rw [if_neg (by decide)]
    try rw [if_pos rfl]
    go_enter Try.func34, Try.ntmps34
    go_wp2
    exact bodyPost_ret (v := .agg #[.int .i64 (p.x - n), .int .i64 (p.y), .int .i64 (p.z)]) (by simp [results, Try.results34, go_sem]) rfl ⟨rfl, al (al1 w _) _⟩
  rw [if_neg c1]
  have b1 := beq_eq_false_iff_ne.2 c1
  by_cases c2 : c = 89
  · subst c2
    try rw [if_neg (by decide)]
    try rw [if_neg (by decide)]
    try rw [if_neg (by decide)]
    try rw [if_neg (by decide)]
    try rw [if_pos rfl]
    go_enter Try.func34, Try.ntmps34
    go_wp2
    exact bodyPost_ret (v := .agg #[.int .i64 (p.x), .int .i64 (p.y + n), .int .i64 (p.z)]) (by simp [results, Try.results34, go_sem]) rfl ⟨rfl, al (al1 w _) _⟩
  rw [if_neg c2]
  have b2 := beq_eq_false_iff_ne.2 c2
  by_cases c3 : c = 121
  · subst c3
    try rw [if_neg (by decide)]
    try rw [if_neg (by decide)]
    try rw [if_neg (by decide)]
    try rw [if_neg (by decide)]
    try rw [if_pos rfl]
    go_enter Try.func34, Try.ntmps34
    go_wp2
    exact bodyPost_ret (v := .agg #[.int .i64 (p.x), .int .i64 (p.y - n), .int .i64 (p.z)]) (by simp [results, Try.results34, go_sem]) rfl ⟨rfl, al (al1 w _) _⟩
  rw [if_neg c3]
  have b3 := beq_eq_false_iff_ne.2 c3
  by_cases c4 : c = 90
  · subst c4
    try rw [if_neg (by decide)]
    try rw [if_neg (by decide)]
    try rw [if_neg (by decide)]
    try rw [if_neg (by decide)]
    try rw [if_pos rfl]
    go_enter Try.func34, Try.ntmps34
    go_wp2
    exact bodyPost_ret (v := .agg #[.int .i64 (p.x), .int .i64 (p.y), .int .i64 (p.z + n)]) (by simp [results, Try.results34, go_sem]) rfl ⟨rfl, al (al1 w _) _⟩
  rw [if_neg c4]
  have b4 := beq_eq_false_iff_ne.2 c4
  go_enter Try.func34, Try.ntmps34
  go_wp2
  exact bodyPost_ret (v := .agg #[.int .i64 (p.x), .int .i64 (p.y), .int .i64 (p.z)]) (by simp [results, Try.results34, go_sem]) rfl ⟨rfl, al (al1 w _) _⟩
end Go.Proofs.Ytcadghenjcaaiaa
