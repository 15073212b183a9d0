/- Turns and points: images, turns one after another, turns back (pure). Valid turns, axes, units, and reckoning with points, of the program. Units. Rows of points; sums. Images. Images of the reference; turns one after another; points that are near. Points that are near. Rows of the call's own; all turns. ContainsFunc at points; ready; the example. Paths of the program and of the reference; FramePaths. Turns, points, boxes and lists of points as arguments: opened and shut. -/
import Derived.Test.YtfkcogocaecodaaZ1
import Derived.Laws.StructEq
import Derived.Deep.CutBlock
import Derived.Laws.Bits64b
import Derived.Test.YtfkcogocaecodaaZ3
import Derived.WalkKit
import Derived.ProofKit
import Derived.OpenShut
import Derived.Lib.SmallJoins
import Derived.Deep.Slices
import Derived.Deep.Fields
import Derived.ChangeSame
namespace Go.Proofs.Ytfkcogocaecodaa.Fm

def ad (p q : Pt) : Pt := ⟨p.x + q.x, p.y + q.y, p.z + q.z⟩
def sc (p : Pt) (n : Int) : Pt := ⟨p.x * n, p.y * n, p.z * n⟩
def cr (p q : Pt) : Pt := ⟨p.y * q.z - p.z * q.y, p.z * q.x - p.x * q.z, p.x * q.y - p.y * q.x⟩
def lo (p q : Pt) : Pt := ⟨min p.x q.x, min p.y q.y, min p.z q.z⟩
def hi (p q : Pt) : Pt := ⟨max p.x q.x, max p.y q.y, max p.z q.z⟩
def axB (n : Int) : Bool := decide (-3 ≤ n) && decide (n ≤ 3) && !decide (n = 0)
def vT (t : Tn) : Bool := axB t.x && axB t.y && !decide (t.x = t.y) && !decide (t.x = -t.y)
def U (n : Int) : Pt := if n = 1 ∨ n = -1 then ⟨n, 0, 0⟩ else if n = 2 ∨ n = -2 then ⟨0, n.tdiv 2, 0⟩ else ⟨0, 0, n.tdiv 3⟩
def axn (p : Pt) : Int := p.x + 2 * p.y + 3 * p.z
def img (t : Tn) (p : Pt) : Pt := ad (ad (sc (U t.x) p.x) (sc (U t.y) p.y)) (sc (cr (U t.x) (U t.y)) p.z)
def aft (a b : Tn) : Tn := ⟨axn (img b (U a.x)), axn (img b (U a.y))⟩
def rng : List Int := [-3, -2, -1, 0, 1, 2, 3]
def allQ : List Tn := rng.flatMap fun x => rng.map fun y => ⟨x, y⟩
def allT : List Tn := allQ.filter vT
def bk (t : Tn) : Tn := (allT.find? fun b => aft t b = ⟨1, 2⟩).getD ⟨0, 0⟩
theorem allT_len : allT.length = 24 := by decide +kernel
theorem ax_rng {n : Int} (h : axB n = true) : n ∈ rng := by
  simp only [axB, Bool.and_eq_true, decide_eq_true_eq] at h
  have : n = -3 ∨ n = -2 ∨ n = -1 ∨ n = 0 ∨ n = 1 ∨ n = 2 ∨ n = 3 := by omega
  simpa [rng] using this
theorem mem_allT {t : Tn} (h : vT t = true) : t ∈ allT := by
  refine List.mem_filter.2 ⟨?_, h⟩
  have h0 := h
  simp only [vT, Bool.and_eq_true] at h0
  obtain ⟨⟨⟨h1, h2⟩, -⟩, -⟩ := h0
  exact List.mem_flatMap.2 ⟨t.x, ax_rng h1, List.mem_map.2 ⟨t.y, ax_rng h2, rfl⟩⟩
theorem vT_mem {t : Tn} (h : t ∈ allT) : vT t = true := (List.mem_filter.1 h).2
theorem aft_facts : ∀ a ∈ allT, ∀ b ∈ allT, vT (aft a b) = true ∧ U (aft a b).x = img b (U a.x) ∧ U (aft a b).y = img b (U a.y) ∧ cr (U (aft a b).x) (U (aft a b).y) = img b (cr (U a.x) (U a.y)) := by decide +kernel
theorem bk_facts : ∀ t ∈ allT, vT (bk t) = true ∧ bk (bk t) = t ∧ aft t (bk t) = ⟨1, 2⟩ ∧ (allT.findIdx fun b => aft t b = ⟨1, 2⟩) < 24 := by decide +kernel
theorem vT_aft {a b : Tn} (ha : vT a = true) (hb : vT b = true) : vT (aft a b) = true := (aft_facts a (mem_allT ha) b (mem_allT hb)).1
theorem img_lin (b : Tn) (p q r : Pt) (i j k : Int) : img b (ad (ad (sc p i) (sc q j)) (sc r k)) = ad (ad (sc (img b p) i) (sc (img b q) j)) (sc (img b r) k) := by
  simp only [img, ad, sc, Pt.mk.injEq]
  refine ⟨?_, ?_, ?_⟩ <;> grind
theorem act {a b : Tn} (ha : vT a = true) (hb : vT b = true) (p : Pt) : img (aft a b) p = img b (img a p) := by
  obtain ⟨-, h1, h2, h3⟩ := aft_facts a (mem_allT ha) b (mem_allT hb)
  have e : img a p = ad (ad (sc (U a.x) p.x) (sc (U a.y) p.y)) (sc (cr (U a.x) (U a.y)) p.z) := rfl
  rw [e, img_lin, ← h1, ← h2, ← h3]
  rfl
theorem grp {a b c : Tn} (ha : vT a = true) (hb : vT b = true) (hc : vT c = true) : aft (aft a b) c = aft a (aft b c) := by
  obtain ⟨-, h1, h2, -⟩ := aft_facts a (mem_allT ha) b (mem_allT hb)
  have e : aft (aft a b) c = ⟨axn (img c (U (aft a b).x)), axn (img c (U (aft a b).y))⟩ := rfl
  rw [e, h1, h2, ← act hb hc, ← act hb hc]
  rfl
theorem img_one (p : Pt) : img ⟨1, 2⟩ p = p := by
  obtain ⟨x, y, z⟩ := p
  simp [img, ad, sc, cr, U]
theorem bk_img {t : Tn} (h : vT t = true) (p : Pt) : img (bk t) (img t p) = p := by
  obtain ⟨h1, -, h2, -⟩ := bk_facts t (mem_allT h)
  rw [← act h h1, h2, img_one]
theorem vT_or {t : Tn} (h : vT t = true) : (t = ⟨-3, -2⟩ ∨ t = ⟨-3, -1⟩ ∨ t = ⟨-3, 1⟩ ∨ t = ⟨-3, 2⟩ ∨ t = ⟨-2, -3⟩ ∨ t = ⟨-2, -1⟩ ∨ t = ⟨-2, 1⟩ ∨ t = ⟨-2, 3⟩) ∨ (t = ⟨-1, -3⟩ ∨ t = ⟨-1, -2⟩ ∨ t = ⟨-1, 2⟩ ∨ t = ⟨-1, 3⟩ ∨ t = ⟨1, -3⟩ ∨ t = ⟨1, -2⟩ ∨ t = ⟨1, 2⟩ ∨ t = ⟨1, 3⟩) ∨ t = ⟨2, -3⟩ ∨ t = ⟨2, -1⟩ ∨ t = ⟨2, 1⟩ ∨ t = ⟨2, 3⟩ ∨ t = ⟨3, -2⟩ ∨ t = ⟨3, -1⟩ ∨ t = ⟨3, 1⟩ ∨ t = ⟨3, 2⟩ := by
  have := mem_allT h
  have e : allT = [⟨-3, -2⟩, ⟨-3, -1⟩, ⟨-3, 1⟩, ⟨-3, 2⟩, ⟨-2, -3⟩, ⟨-2, -1⟩, ⟨-2, 1⟩, ⟨-2, 3⟩, ⟨-1, -3⟩, ⟨-1, -2⟩, ⟨-1, 2⟩, ⟨-1, 3⟩, ⟨1, -3⟩, ⟨1, -2⟩, ⟨1, 2⟩, ⟨1, 3⟩, ⟨2, -3⟩, ⟨2, -1⟩, ⟨2, 1⟩, ⟨2, 3⟩, ⟨3, -2⟩, ⟨3, -1⟩, ⟨3, 1⟩, ⟨3, 2⟩] := by decide +kernel
  rw [e] at this
  simpa only [List.mem_cons, List.not_mem_nil, or_false, or_assoc] using this
theorem img_bd {t : Tn} (h : vT t = true) {p : Pt} {L : Int} (hp : p.bd L) : (img t p).bd L := by
  unfold Pt.bd at *
  rcases vT_or h with (rfl|rfl|rfl|rfl|rfl|rfl|rfl|rfl)|(rfl|rfl|rfl|rfl|rfl|rfl|rfl|rfl)|rfl|rfl|rfl|rfl|rfl|rfl|rfl|rfl <;>
    (simp [img, ad, sc, cr, U]; omega)
def dt (a b : Pt) : Int := a.x * b.x + a.y * b.y + a.z * b.z
def mi (a b : Pt) : Pt := ⟨a.x - b.x, a.y - b.y, a.z - b.z⟩
theorem img_dt {t : Tn} (h : vT t = true) (p q : Pt) : dt (img t p) (img t q) = dt p q := by
  unfold dt
  rcases vT_or h with (rfl|rfl|rfl|rfl|rfl|rfl|rfl|rfl)|(rfl|rfl|rfl|rfl|rfl|rfl|rfl|rfl)|rfl|rfl|rfl|rfl|rfl|rfl|rfl|rfl <;>
    (simp [img, ad, sc, cr, U]; try grind)
theorem img_mi (t : Tn) (p q : Pt) : mi (img t p) (img t q) = img t (mi p q) := by
  simp only [img, ad, sc, mi, Pt.mk.injEq]
  refine ⟨?_, ?_, ?_⟩ <;> grind
def vol (p q s : Pt) : Int := p.x * (q.y * s.z - q.z * s.y) + p.y * (q.z * s.x - q.x * s.z) + p.z * (q.x * s.y - q.y * s.x)
theorem img_vol {t : Tn} (h : vT t = true) (p q s : Pt) : vol (img t p) (img t q) (img t s) = vol p q s := by
  unfold vol
  rcases vT_or h with (rfl|rfl|rfl|rfl|rfl|rfl|rfl|rfl)|(rfl|rfl|rfl|rfl|rfl|rfl|rfl|rfl)|rfl|rfl|rfl|rfl|rfl|rfl|rfl|rfl <;>
    (simp [img, ad, sc, cr, U]; try grind)
/-- The image of a box. -/
def bxp (t : Tn) (p q : Pt) : Pt × Pt := (lo (img t p) (img t q), hi (img t p) (img t q))
set_option maxHeartbeats 4000000 in
theorem img_between {t : Tn} (h : vT t = true) {p q r : Pt} (h1 : (p.x ≤ r.x ∧ r.x ≤ q.x) ∧ (p.y ≤ r.y ∧ r.y ≤ q.y) ∧ (p.z ≤ r.z ∧ r.z ≤ q.z)) :
    ((lo (img t p) (img t q)).x ≤ (img t r).x ∧ (img t r).x ≤ (hi (img t p) (img t q)).x) ∧ ((lo (img t p) (img t q)).y ≤ (img t r).y ∧ (img t r).y ≤ (hi (img t p) (img t q)).y) ∧ ((lo (img t p) (img t q)).z ≤ (img t r).z ∧ (img t r).z ≤ (hi (img t p) (img t q)).z) := by
  rcases vT_or h with (rfl|rfl|rfl|rfl|rfl|rfl|rfl|rfl)|(rfl|rfl|rfl|rfl|rfl|rfl|rfl|rfl)|rfl|rfl|rfl|rfl|rfl|rfl|rfl|rfl <;>
    (simp [img, ad, sc, cr, U, lo, hi]; omega)
set_option maxHeartbeats 4000000 in
theorem img_perm {t : Tn} (h : vT t = true) {p q : Pt} (h1 : p.x ≤ q.x ∧ p.y ≤ q.y ∧ p.z ≤ q.z) :
    [(hi (img t p) (img t q)).x - (lo (img t p) (img t q)).x, (hi (img t p) (img t q)).y - (lo (img t p) (img t q)).y, (hi (img t p) (img t q)).z - (lo (img t p) (img t q)).z].Perm [q.x - p.x, q.y - p.y, q.z - p.z] := by
  have pm : ∀ {a b c x y z : Int}, (a = x ∧ b = y ∧ c = z) ∨ (a = x ∧ b = z ∧ c = y) ∨ (a = y ∧ b = x ∧ c = z) ∨ (a = y ∧ b = z ∧ c = x) ∨ (a = z ∧ b = x ∧ c = y) ∨ (a = z ∧ b = y ∧ c = x) → [a, b, c].Perm [x, y, z] := by
    intro a b c x y z k
    rcases k with ⟨rfl, rfl, rfl⟩ | ⟨rfl, rfl, rfl⟩ | ⟨rfl, rfl, rfl⟩ | ⟨rfl, rfl, rfl⟩ | ⟨rfl, rfl, rfl⟩ | ⟨rfl, rfl, rfl⟩
    · exact List.Perm.refl _
    · exact (List.Perm.swap _ _ _).cons _
    · exact List.Perm.swap _ _ _
    · exact ((List.Perm.swap _ _ _).trans ((List.Perm.swap _ _ _).cons _)).symm
    · exact ((List.Perm.swap _ _ _).cons _).trans (List.Perm.swap _ _ _)|>.symm
    · exact ((List.Perm.swap _ _ _).trans ((List.Perm.swap _ _ _).cons _)).trans (List.Perm.swap _ _ _)
  apply pm
  rcases vT_or h with (rfl|rfl|rfl|rfl|rfl|rfl|rfl|rfl)|(rfl|rfl|rfl|rfl|rfl|rfl|rfl|rfl)|rfl|rfl|rfl|rfl|rfl|rfl|rfl|rfl <;>
    (simp [img, ad, sc, cr, U, lo, hi]; omega)
end Go.Proofs.Ytfkcogocaecodaa.Fm
namespace Go.Proofs.Ytfkcogocaecodaa.Fm
open Go.ChangeShapes Go.WideShapes Go.ChangeAt Go.RowKit
set_option linter.unusedVariables false
set_option linter.unusedSimpArgs false

def tv (a b : Int) : Value := .agg #[.int .i64 a, .int .i64 b]
def pv (a b c : Int) : Value := .agg #[.int .i64 a, .int .i64 b, .int .i64 c]
def Tn.ok (t : Tn) : Prop := I64 t.x ∧ I64 t.y
theorem envb {w0 w : World} {l : List Fb} (h : Env w0 w l) : Below w0.heap.size w0 w := h.1
theorem i64w {n : Int} (h : I64 n) : IntKind.i64.wrap n = n := IntWalk.i64_in _ (by unfold I64 at h; omega)
theorem mulb {a b A B : Int} (ha : -A ≤ a ∧ a ≤ A) (hb : -B ≤ b ∧ b ≤ B) : -(A * B) ≤ a * b ∧ a * b ≤ A * B := by
  have h1 : a.natAbs ≤ A.natAbs := by omega
  have h2 : b.natAbs ≤ B.natAbs := by omega
  have h3 : (a * b).natAbs ≤ (A * B).natAbs := by rw [Int.natAbs_mul, Int.natAbs_mul]; exact Nat.mul_le_mul h1 h2
  have h4 : 0 ≤ A * B := Int.mul_nonneg (by omega) (by omega)
  omega
theorem setB_num (k : Nat) (l : List Fb) (i : Nat) (u : Value) : numB k (setB i u k l) = numB k l := by
  induction l generalizing k with
  | nil => cases k <;> rfl
  | cons x l ih => cases k with
    | zero => rfl
    | succ k => exact ih k
theorem setB_len (k : Nat) (l : List Fb) (i : Nat) (u : Value) : (setB i u k l).length = l.length := by
  have := congrArg List.length (setB_g i u k l); simpa using this
theorem _root_.Go.Proofs.Ytfkcogocaecodaa.Env.twoF {w0 w : World} {l : List Fb} (u0 u1 : Value) (h : Env w0 w l) (k : Nat) (hb : Nat.blt k l.length = true) :
    Env w0 ((w.setCell ⟨numB k l, 0, none⟩ u0).setCell ⟨numB k l, 1, none⟩ u1) (setB 1 u1 k (setB 0 u0 k l)) := by
  have h0 := h.put k 0 u0 hb
  have h1 := h0.put k 1 u1 (by rw [setB_len]; exact hb)
  simp only [setB_num] at h1
  exact h1
theorem _root_.Go.Proofs.Ytfkcogocaecodaa.Env.threeF {w0 w : World} {l : List Fb} (u0 u1 u2 : Value) (h : Env w0 w l) (k : Nat) (hb : Nat.blt k l.length = true) :
    Env w0 (((w.setCell ⟨numB k l, 0, none⟩ u0).setCell ⟨numB k l, 1, none⟩ u1).setCell ⟨numB k l, 2, none⟩ u2) (setB 2 u2 k (setB 1 u1 k (setB 0 u0 k l))) := by
  have h0 := h.put k 0 u0 hb
  have h1 := h0.put k 1 u1 (by rw [setB_len]; exact hb)
  have h2 := h1.put k 2 u2 (by rw [setB_len, setB_len]; exact hb)
  simp only [setB_num] at h2
  exact h2
theorem eq23 (a b c d : Int) (W : World) : (binOp .eql 28 (.agg #[.int .i64 a, .int .i64 b]) (.agg #[.int .i64 c, .int .i64 d])).run Try.prog W = .ok (.bool (decide (a = c ∧ b = d))) W := by
  rw [run_eql_struct, run_equalIn_agg (ht := by kernel_rfl) (hp := by kernel_rfl)]
  simp [go_sem, Program.fieldsOf, Try.underlying28]
  by_cases h1 : a = c <;> by_cases h2 : b = d <;> simp [h1, h2]
theorem axis_35 (n : Int) (w : World) : Calls Try.prog 81 #[.int .i64 n] w fun e w' => e = .returned (.bool (axB n)) ∧ w = w' := by
  unfold axB
  go_enter Try.func81, Try.ntmps81
  by_cases h1 : -3 ≤ n
  · by_cases h2 : n ≤ 3
    · by_cases h3 : n = 0
      · subst h3
        go_wp2
        go_ret
        exact ⟨rfl, rfl⟩
      · have e1 : decide (-3 ≤ n) = true := by simp [h1]
        have e2 : decide (n ≤ 3) = true := by simp [h2]
        have e3 : decide (n = 0) = false := by simp [h3]
        have e5 : (n == 0) = false := by simp [h3]
        have e4 : decide (n ≥ -3) = true := by simp; omega
        go_wp2
        go_ret
        exact ⟨by simp [h1, h2, h3], rfl⟩
    · have e1 : decide (-3 ≤ n) = true := by simp [h1]
      have e4 : decide (n ≥ -3) = true := by simp; omega
      have e2 : decide (n ≤ 3) = false := by simp [h2]
      go_wp2
      go_ret
      exact ⟨by simp [e1, e2], rfl⟩
  · have e1 : decide (-3 ≤ n) = false := by simp [h1]
    have e4 : decide (n ≥ -3) = false := by simp; omega
    go_wp2
    go_ret
    exact ⟨by simp [e1], rfl⟩
set_option maxRecDepth 100000 in
theorem valid_11 (t : Tn) (w : World) : Calls Try.prog 68 #[t.val] w fun e w' => e = .returned (.bool (vT t)) ∧ Below w.heap.size w w' := by
  obtain ⟨x, y⟩ := t
  have hx := fun W => axis_35 x W
  have hy := fun W => axis_35 y W
  have E := (Env.nil w).add w.heap.size 28 #[.int .i64 x, .int .i64 y] rfl
  have C := E.cells
  simp [BC, CF] at C
  unfold Tn.val vT
  dsimp only
  cases h1 : axB x
  · rw [h1] at hx
    clear h1 hy
    go_enter Try.func68, Try.ntmps68
    go_wp2_with (first
      | (go_at_call 81; (with_reducible refine (hx _).mono ?_); rintro e1 w1 ⟨rfl, rfl⟩))
    go_ret
    exact ⟨by simp, envb E⟩
  · rw [h1] at hx
    cases h2 : axB y
    · rw [h2] at hy
      clear h1 h2
      go_enter Try.func68, Try.ntmps68
      go_wp2_with (first
        | (go_at_call 81; (with_reducible refine (hx _).mono ?_); rintro e1 w1 ⟨rfl, rfl⟩)
        | (go_at_call 81; (with_reducible refine (hy _).mono ?_); rintro e1 w1 ⟨rfl, rfl⟩))
      go_ret
      exact ⟨by simp, envb E⟩
    · rw [h2] at hy
      have W1 : IntKind.i64.wrap (-y) = -y := by
        simp only [axB, Bool.and_eq_true, decide_eq_true_eq] at h2
        exact IntWalk.i64_in _ (by omega)
      by_cases h3 : x = y
      · subst h3
        go_enter Try.func68, Try.ntmps68
        go_wp2_with (first
          | (go_at_call 81; (with_reducible refine (hx _).mono ?_); rintro e1 w1 ⟨rfl, rfl⟩)
          | (go_at_call 81; (with_reducible refine (hy _).mono ?_); rintro e1 w1 ⟨rfl, rfl⟩))
        go_ret
        exact ⟨by simp, envb E⟩
      · have b3 : decide (x = y) = false := by simp [h3]
        have b4 : (x == y) = false := by simp [h3]
        have W2 : wrap64 (-y) = -y := by
          simp only [axB, Bool.and_eq_true, decide_eq_true_eq] at h2
          unfold wrap64; omega
        have W3 : IntKind.i64.wrap (-y) = -y := by
          simp only [axB, Bool.and_eq_true, decide_eq_true_eq] at h2
          exact IntWalk.i64_in _ (by omega)
        by_cases h5 : x = -y
        · have e7 : x = -y := by omega
          have b8 : decide (x = -y) = true := by simp [e7]
          have b9 : (x == -y) = true := by simp [e7]
          clear h5 h1 h2 e7
          go_enter Try.func68, Try.ntmps68
          go_wp2_with (first
            | (go_at_call 81; (with_reducible refine (hx _).mono ?_); rintro e1 w1 ⟨rfl, rfl⟩)
            | (go_at_call 81; (with_reducible refine (hy _).mono ?_); rintro e1 w1 ⟨rfl, rfl⟩))
          go_ret
          exact ⟨by simp only [W2, bne, b3, b4, b8, b9]; try rfl, envb E⟩
        · have e7 : ¬ x = -y := by omega
          have b8 : decide (x = -y) = false := by simp [e7]
          have b9 : (x == -y) = false := by simp [e7]
          clear h5 h1 h2
          go_enter Try.func68, Try.ntmps68
          go_wp2_with (first
            | (go_at_call 81; (with_reducible refine (hx _).mono ?_); rintro e1 w1 ⟨rfl, rfl⟩)
            | (go_at_call 81; (with_reducible refine (hy _).mono ?_); rintro e1 w1 ⟨rfl, rfl⟩))
          go_ret
          exact ⟨by simp [W2, e7, h3]; try omega, envb E⟩
end Go.Proofs.Ytfkcogocaecodaa.Fm
namespace Go.Proofs.Ytfkcogocaecodaa.Fm
open Go.ChangeShapes Go.WideShapes Go.ChangeAt Go.RowKit
set_option linter.unusedVariables false
set_option linter.unusedSimpArgs false

theorem ax_or {n : Int} (h : axB n = true) : n = -3 ∨ n = -2 ∨ n = -1 ∨ n = 1 ∨ n = 2 ∨ n = 3 := by
  simp only [axB, Bool.and_eq_true, decide_eq_true_eq, Bool.not_eq_true', decide_eq_false_iff_not] at h
  omega
theorem unit_58 (n : Int) (h : axB n = true) (w : World) : Calls Try.prog 102 #[.int .i64 n] w fun e w' => e = .returned (U n).val ∧ Below w.heap.size w w' := by
  rcases ax_or h with rfl | rfl | rfl | rfl | rfl | rfl
  · rw [show (U (-3)).val = pv (0) (0) (-1) from rfl]
    unfold pv
    clear h
    go_enter Try.func102, Try.ntmps102
    go_wp2
    exact bodyPost_ret (v := pv (0) (0) (-1)) (by simp [results, Try.results102, go_sem, pv]) rfl ⟨rfl, al1 w _⟩
  · rw [show (U (-2)).val = pv (0) (-1) (0) from rfl]
    unfold pv
    clear h
    go_enter Try.func102, Try.ntmps102
    go_wp2
    exact bodyPost_ret (v := pv (0) (-1) (0)) (by simp [results, Try.results102, go_sem, pv]) rfl ⟨rfl, al1 w _⟩
  · rw [show (U (-1)).val = pv (-1) (0) (0) from rfl]
    unfold pv
    clear h
    go_enter Try.func102, Try.ntmps102
    go_wp2
    exact bodyPost_ret (v := pv (-1) (0) (0)) (by simp [results, Try.results102, go_sem, pv]) rfl ⟨rfl, al1 w _⟩
  · rw [show (U (1)).val = pv (1) (0) (0) from rfl]
    unfold pv
    clear h
    go_enter Try.func102, Try.ntmps102
    go_wp2
    exact bodyPost_ret (v := pv (1) (0) (0)) (by simp [results, Try.results102, go_sem, pv]) rfl ⟨rfl, al1 w _⟩
  · rw [show (U (2)).val = pv (0) (1) (0) from rfl]
    unfold pv
    clear h
    go_enter Try.func102, Try.ntmps102
    go_wp2
    exact bodyPost_ret (v := pv (0) (1) (0)) (by simp [results, Try.results102, go_sem, pv]) rfl ⟨rfl, al1 w _⟩
  · rw [show (U (3)).val = pv (0) (0) (1) from rfl]
    unfold pv
    clear h
    go_enter Try.func102, Try.ntmps102
    go_wp2
    exact bodyPost_ret (v := pv (0) (0) (1)) (by simp [results, Try.results102, go_sem, pv]) rfl ⟨rfl, al1 w _⟩
theorem times_59 (x y z n : Int) (hx : I64 (x * n)) (hy : I64 (y * n)) (hz : I64 (z * n)) (w : World) : Calls Try.prog 101 #[(Pt.mk x y z).val, .int .i64 n] w fun e w' => e = .returned (pv (x * n) (y * n) (z * n)) ∧ Below w.heap.size w w' := by
  have W0 : IntKind.i64.wrap (x * n) = x * n := i64w hx
  have W1 : IntKind.i64.wrap (y * n) = y * n := i64w hy
  have W2 : IntKind.i64.wrap (z * n) = z * n := i64w hz
  have E := ((Env.nil w).add w.heap.size 24 #[.int .i64 x, .int .i64 y, .int .i64 z] rfl)
  clear hx hy hz
  unfold pv Pt.val
  go_enter Try.func101, Try.ntmps101
  go_wp2
  exact bodyPost_ret (v := pv (x * n) (y * n) (z * n)) (by simp [results, Try.results101, go_sem, pv]) rfl ⟨rfl, al (envb E) _⟩
theorem plus_49 (a b c x y z : Int) (hx : I64 (a + x)) (hy : I64 (b + y)) (hz : I64 (c + z)) (w : World) : Calls Try.prog 39 #[(Pt.mk a b c).val, (Pt.mk x y z).val] w fun e w' => e = .returned (pv (a + x) (b + y) (c + z)) ∧ Below w.heap.size w w' := by
  have W0 : IntKind.i64.wrap (a + x) = a + x := i64w hx
  have W1 : IntKind.i64.wrap (b + y) = b + y := i64w hy
  have W2 : IntKind.i64.wrap (c + z) = c + z := i64w hz
  clear hx hy hz
  unfold pv Pt.val
  go_enter Try.func39, Try.ntmps39
  go_wp2
  exact bodyPost_ret (v := pv (a + x) (b + y) (c + z)) (by simp [results, Try.results39, go_sem, pv]) rfl ⟨rfl, al (al (al1 w _) _) _⟩
set_option maxRecDepth 100000 in
theorem cross_60 (a b c x y z : Int) (h1 : (Pt.mk a b c).bd 1) (h2 : (Pt.mk x y z).bd 1) (w : World) : Calls Try.prog 103 #[(Pt.mk a b c).val, (Pt.mk x y z).val] w fun e w' => e = .returned (pv (b * z - c * y) (c * x - a * z) (a * y - b * x)) ∧ Below w.heap.size w w' := by
  obtain ⟨ha, hb, hc⟩ := h1
  obtain ⟨hx, hy, hz⟩ := h2
  dsimp only at *
  have m0 := mulb hb hz
  have m1 := mulb hc hy
  have m2 := mulb hc hx
  have m3 := mulb ha hz
  have m4 := mulb ha hy
  have m5 := mulb hb hx
  have W0 : IntKind.i64.wrap (b * z) = b * z := IntWalk.i64_in _ (by omega)
  have W1 : IntKind.i64.wrap (c * y) = c * y := IntWalk.i64_in _ (by omega)
  have W2 : IntKind.i64.wrap (b * z - c * y) = b * z - c * y := IntWalk.i64_in _ (by omega)
  have W3 : IntKind.i64.wrap (c * x) = c * x := IntWalk.i64_in _ (by omega)
  have W4 : IntKind.i64.wrap (a * z) = a * z := IntWalk.i64_in _ (by omega)
  have W5 : IntKind.i64.wrap (c * x - a * z) = c * x - a * z := IntWalk.i64_in _ (by omega)
  have W6 : IntKind.i64.wrap (a * y) = a * y := IntWalk.i64_in _ (by omega)
  have W7 : IntKind.i64.wrap (b * x) = b * x := IntWalk.i64_in _ (by omega)
  have W8 : IntKind.i64.wrap (a * y - b * x) = a * y - b * x := IntWalk.i64_in _ (by omega)
  clear ha hb hc hx hy hz m0 m1 m2 m3 m4 m5
  unfold pv Pt.val
  go_enter Try.func103, Try.ntmps103
  go_wp2
  exact bodyPost_ret (v := pv (b * z - c * y) (c * x - a * z) (a * y - b * x)) (by simp [results, Try.results103, go_sem, pv]) rfl ⟨rfl, al (al (al1 w _) _) _⟩
theorem mmin_45 (a b c x y z : Int) (w : World) : Calls Try.prog 99 #[(Pt.mk a b c).val, (Pt.mk x y z).val] w fun e w' => e = .returned (pv (min a x) (min b y) (min c z)) ∧ Below w.heap.size w w' := by
  unfold pv Pt.val
  go_enter Try.func99, Try.ntmps99
  go_wp2
  all_goals exact bodyPost_ret (v := pv (min a x) (min b y) (min c z)) (by simp [results, Try.results99, go_sem, pv] <;> omega) rfl ⟨rfl, al (al (al1 w _) _) _⟩
theorem mmax_47 (a b c x y z : Int) (w : World) : Calls Try.prog 100 #[(Pt.mk a b c).val, (Pt.mk x y z).val] w fun e w' => e = .returned (pv (max a x) (max b y) (max c z)) ∧ Below w.heap.size w w' := by
  unfold pv Pt.val
  go_enter Try.func100, Try.ntmps100
  go_wp2
  all_goals exact bodyPost_ret (v := pv (max a x) (max b y) (max c z)) (by simp [results, Try.results100, go_sem, pv] <;> omega) rfl ⟨rfl, al (al (al1 w _) _) _⟩
end Go.Proofs.Ytfkcogocaecodaa.Fm
namespace Go.Proofs.Ytfkcogocaecodaa.Fm
open Go.ChangeShapes Go.WideShapes Go.ChangeAt Go.RowKit
set_option linter.unusedVariables false
set_option linter.unusedSimpArgs false

theorem lt_of_cell {w : World} {a : Addr} {v : Value} (h : w.cell? a = some v) : a.block < w.heap.size := by
  rcases Nat.lt_or_ge a.block w.heap.size with k | k
  · exact k
  · rw [World.cell?, Array.getElem?_eq_none k] at h; cases h
theorem cell_later {w w1 : World} (hb : Below w.heap.size w w1) {a : Addr} {v : Value} (h : w.cell? a = some v) : w1.cell? a = some v := by
  rw [hb.cell (lt_of_cell h)]; exact h
/-- The points that lie in a row of cells. -/
def Fr (w : World) (a : Addr) (l : List Pt) : Prop := ∀ i (h : i < l.length), w.cell? (a.add (i * 3)) = some (.int .i64 l[i].x) ∧ w.cell? ⟨(a.add (i * 3)).block, (a.add (i * 3)).off + 1, none⟩ = some (.int .i64 l[i].y) ∧ w.cell? ⟨(a.add (i * 3)).block, (a.add (i * 3)).off + 2, none⟩ = some (.int .i64 l[i].z)
theorem Fr.on {w w1 : World} {a : Addr} {l : List Pt} (h : Fr w a l) (hb : Below w.heap.size w w1) : Fr w1 a l := fun i hi => by
  obtain ⟨h0, h1, h2⟩ := h i hi
  exact ⟨cell_later hb h0, cell_later hb h1, cell_later hb h2⟩
/-- A slice of points, nil or not. -/
def Sl (w : World) (p : Option Addr) (l : List Pt) : Prop := (p = none → l = []) ∧ (∀ a, p = some a → Fr w a l) ∧ l.length ≤ maxLen
theorem Sl.on {w w1 : World} {p : Option Addr} {l : List Pt} (h : Sl w p l) (hb : Below w.heap.size w w1) : Sl w1 p l := ⟨h.1, fun a ha => (h.2.1 a ha).on hb, h.2.2⟩
theorem Sl.at {w : World} {p : Option Addr} {l : List Pt} (h : Sl w p l) {k : Nat} (hk : k < l.length) : ∃ a, p = some a ∧ w.cell? (a.add (k * 3)) = some (.int .i64 l[k].x) ∧ w.cell? ⟨(a.add (k * 3)).block, (a.add (k * 3)).off + 1, none⟩ = some (.int .i64 l[k].y) ∧ w.cell? ⟨(a.add (k * 3)).block, (a.add (k * 3)).off + 2, none⟩ = some (.int .i64 l[k].z) := by
  cases p with
  | none => rw [h.1 rfl] at hk; simp at hk
  | some a => exact ⟨a, rfl, h.2.1 a rfl k hk⟩
def pcells (l : List Pt) : List Value := l.flatMap fun p => p.cs.toList
theorem pcells_at : ∀ (l : List Pt) (k : Nat) (hk : k < l.length), (pcells l)[k * 3]? = some (.int .i64 l[k].x) ∧ (pcells l)[k * 3 + 1]? = some (.int .i64 l[k].y) ∧ (pcells l)[k * 3 + 2]? = some (.int .i64 l[k].z)
  | [], k, hk => by simp at hk
  | p :: l, 0, _ => by simp [pcells, Pt.cs]
  | p :: l, k + 1, hk => by
    have h := pcells_at l k (by simpa using hk)
    have e : pcells (p :: l) = .int .i64 p.x :: .int .i64 p.y :: .int .i64 p.z :: pcells l := by simp [pcells, Pt.cs]
    rw [e, show (k + 1) * 3 = k * 3 + 3 by omega, show k * 3 + 3 + 1 = k * 3 + 1 + 3 by omega, show k * 3 + 3 + 2 = k * 3 + 2 + 3 by omega]
    simpa using h
/-- A row of points that was just laid. -/
theorem Sl.lit {w : World} {g : Nat} {cs : Array Value} (l : List Pt) (h : Has w g 24 cs) (e : cs.toList = pcells l) (hl : l.length ≤ maxLen) : Sl w (some ⟨g, 0, none⟩) l := by
  refine ⟨fun h => (by cases h), fun a ha i hi => ?_, hl⟩
  cases ha
  obtain ⟨h0, h1, h2⟩ := pcells_at l i hi
  rw [← e, Array.getElem?_toList] at h0 h1 h2
  rw [Addr.add_lit, Nat.zero_add]
  exact ⟨by rw [h.read, h0], by rw [h.read, h1], by rw [h.read, h2]⟩
def sm (l : List Pt) : Pt := l.foldl ad ⟨0, 0, 0⟩
theorem sm_step {l : List Pt} {k : Nat} (hk : k < l.length) : sm (l.take (k + 1)) = ad (sm (l.take k)) l[k] := by
  rw [List.take_succ_eq_append_getElem hk, sm, List.foldl_append]; rfl
theorem ad_bd {p q : Pt} {L M : Int} (h : p.bd L) (k : q.bd M) : (ad p q).bd (L + M) := by
  unfold Pt.bd ad at *; dsimp only; omega
theorem sm_bd {l : List Pt} {M : Int} (h : ∀ x ∈ l, x.bd M) : ∀ k, k ≤ l.length → (sm (l.take k)).bd (k * M)
  | 0, _ => by simp [sm, Pt.bd]
  | k + 1, hk => by
    rw [sm_step (by omega)]
    have := ad_bd (sm_bd h k (by omega)) (h _ (List.getElem_mem (by omega : k < l.length)))
    have e : ((k + 1 : Nat) : Int) * M = k * M + M := by rw [Int.natCast_add, Int.add_mul]; simp
    rw [e]; exact this
theorem Pt.eta (p : Pt) : p.val = pv p.x p.y p.z := rfl
set_option maxHeartbeats 8000000 in
set_option maxRecDepth 100000 in
theorem sum_any (p : Option Addr) (l : List Pt) (cap : Nat) (w : World) (hS : Sl w p l) (hb : ∀ x ∈ l, x.bd 1000000000) (hl : l.length ≤ 3) :
    Calls Try.prog 92 #[.slice p l.length cap] w fun e w' => e = .returned (sm l).val ∧ Below w.heap.size w w' := by
  obtain ⟨T, hT⟩ : ∃ T : Nat → Pt, Hid (∀ k, T k = sm (l.take k)) := ⟨fun k => sm (l.take k), Lib.hid fun _ => rfl⟩
  have HS := Lib.hid hS
  have HB := Lib.hid hb
  have h0 : Hid (T 0 = ⟨0, 0, 0⟩) := Lib.hid (by rw [hT.out]; rfl)
  have hN : Hid (T l.length = sm l) := Lib.hid (by rw [hT.out, List.take_length])
  rw [← hN.out]
  have HT := Lib.hid (fun k (hk : k < l.length) => show T (k + 1) = ad (T k) l[k] by rw [hT.out, hT.out]; exact sm_step hk)
  have HD := Lib.hid (fun k (hk : k ≤ l.length) => show (T k).bd (k * 1000000000) by rw [hT.out]; exact sm_bd hb k hk)
  clear hT hS hb hN
  obtain ⟨n, hn⟩ : ∃ n, Hid (l.length = n) := ⟨_, Lib.hid rfl⟩
  rw [hn.out] at hl ⊢
  have E := ((Env.nil w).add w.heap.size 24 #[.int .i64 0, .int .i64 0, .int .i64 0] rfl).add (w.heap.size + 1) 24 #[.int .i64 0, .int .i64 0, .int .i64 0] (by simp)
  have C := E.cells
  simp [BC, CF] at C
  unfold Pt.val
  go_enter Try.func92, Try.ntmps92
  go_wp2
  go_loopw [9] (fun v wr => ∃ k : Nat, v = .int .i64 k ∧ k ≤ n ∧ Env w wr [⟨w.heap.size + 1, 24, (T k).cs⟩, ⟨w.heap.size, 24, #[.int .i64 0, .int .i64 0, .int .i64 0]⟩]) (fun v _ => n - (intOf v).toNat)
  case atStart => exact ⟨0, rfl, Nat.zero_le _, (by rw [h0.out]; exact E)⟩
  case round =>
    obtain ⟨k, rfl, hk, E⟩ := hrel
    have hD := HD.out k (by rw [hn.out]; exact hk)
    by_cases hlt : k < n
    · have hkl : k < l.length := by rw [hn.out]; exact hlt
      have g1 : decide ((k : Int) < (n : Int)) = true := by simp [hlt]
      obtain ⟨a, rfl, c0, c1, c2⟩ := (HS.out.on E.1).at hkl
      have hB := HB.out _ (List.getElem_mem hkl)
      have hR := Lib.hid (HT.out k hkl)
      obtain ⟨⟨x1, y1, z1⟩, hx⟩ : ∃ q, Hid (T k = q) := ⟨_, Lib.hid rfl⟩
      obtain ⟨⟨x2, y2, z2⟩, hy⟩ : ∃ q, Hid (l[k] = q) := ⟨_, Lib.hid rfl⟩
      rw [hx.out] at hD hR E
      rw [hy.out] at hB hR c0 c1 c2
      obtain ⟨d0, d1, d2⟩ := hD
      obtain ⟨e0, e1, e2⟩ := hB
      dsimp only [Pt.cs] at *
      have W1 : IntKind.i64.wrap ((k : Int) + 1) = ((k + 1 : Nat) : Int) := by rw [IntWalk.i64_in _ (by omega)]; omega
      have q1 : (0 : Int) ≤ (k : Int) := by omega
      have q2 : (k : Int) < (n : Int) := by omega
      have V0 : IntKind.i64.wrap (x1 + x2) = x1 + x2 := IntWalk.i64_in _ (by omega)
      have V1 : IntKind.i64.wrap (y1 + y2) = y1 + y2 := IntWalk.i64_in _ (by omega)
      have V2 : IntKind.i64.wrap (z1 + z2) = z1 + z2 := IntWalk.i64_in _ (by omega)
      have C := E.cells
      simp [BC, CF] at C
      clear d0 d1 d2 e0 e1 e2
      go_wp2
      refine ⟨⟨k + 1, rfl, hlt, ?_⟩, by simp [intOf]; omega⟩
      rw [hR.out]
      exact (E.threeF (.int .i64 (x1 + x2)) (.int .i64 (y1 + y2)) (.int .i64 (z1 + z2)) 0 rfl).more _
    · have hkn : k = n := by omega
      subst hkn
      have g1 : decide ((k : Int) < (k : Int)) = false := by simp
      obtain ⟨⟨x1, y1, z1⟩, hx⟩ : ∃ q, Hid (T k = q) := ⟨_, Lib.hid rfl⟩
      rw [hx.out] at E
      dsimp only [Pt.cs] at *
      have C := E.cells
      simp [BC, CF] at C
      clear hlt hD
      go_wp2
      exact bodyPost_ret (v := pv x1 y1 z1) (by simp [results, Try.results92, go_sem, pv, *]) rfl ⟨by rw [hx.out]; rfl, envb (E.threeF _ _ _ 1 rfl)⟩
end Go.Proofs.Ytfkcogocaecodaa.Fm
namespace Go.Proofs.Ytfkcogocaecodaa.Fm
open Go.ChangeShapes Go.WideShapes Go.ChangeAt Go.RowKit
set_option linter.unusedVariables false
set_option linter.unusedSimpArgs false

theorem U_bd {n : Int} (h : axB n = true) : (U n).bd 1 := by
  rcases ax_or h with rfl | rfl | rfl | rfl | rfl | rfl <;> (unfold Pt.bd; decide)
theorem cr_bd {p q : Pt} (h1 : p.bd 1) (h2 : q.bd 1) : (cr p q).bd 2 := by
  obtain ⟨ha, hb, hc⟩ := h1
  obtain ⟨hx, hy, hz⟩ := h2
  have m0 := mulb hb hz
  have m1 := mulb hc hy
  have m2 := mulb hc hx
  have m3 := mulb ha hz
  have m4 := mulb ha hy
  have m5 := mulb hb hx
  unfold Pt.bd cr
  dsimp only
  omega
theorem sc_bd {p : Pt} {n A B : Int} (h : p.bd A) (hn : -B ≤ n ∧ n ≤ B) : (sc p n).bd (A * B) := by
  obtain ⟨ha, hb, hc⟩ := h
  exact ⟨mulb ha hn, mulb hb hn, mulb hc hn⟩
theorem bd_mono {p : Pt} {A B : Int} (h : p.bd A) (hAB : A ≤ B) : p.bd B := by unfold Pt.bd at *; omega
theorem bd_ok {p : Pt} {A : Int} (h : p.bd A) (hA : A ≤ 1000000000000) : I64 p.x ∧ I64 p.y ∧ I64 p.z := by unfold Pt.bd at h; unfold I64; omega
theorem vT_ax {t : Tn} (h : vT t = true) : axB t.x = true ∧ axB t.y = true := by
  simp only [vT, Bool.and_eq_true] at h
  exact h.1.1
theorem s_im {w0 w : World} {g h k : Nat} {a b c d e f : Value} {cs : Array Value} (E : Env w0 w [⟨k, 24, #[d, e, f]⟩, ⟨h, 24, #[a, b, c]⟩, ⟨g, 28, cs⟩]) : Env w0 w [⟨k, 24, #[d, e, f]⟩, ⟨h, 24, #[a, b, c]⟩, ⟨g, 28, cs⟩] := E
theorem s_i1 {w0 w : World} {g : Nat} {x y : Value} {l : List Fb} {b c : Fb} (E : Env w0 w (b :: c :: ⟨g, 28, #[x, y]⟩ :: l)) : Env w0 w (b :: c :: ⟨g, 28, #[x, y]⟩ :: l) ∧ w.cell? ⟨g, 0, none⟩ = some x ∧ w.cell? ⟨g, 1, none⟩ = some y := by
  have C := E.cells
  simp [BC, CF] at C
  exact ⟨E, C.2.2.1.2.1.1, C.2.2.1.2.2.1⟩
theorem s_i2 {w0 w : World} {g1 g2 g4 : Nat} {a0 a1 a2 b0 b1 b2 d0 d1 d2 : Value} {c : Fb} {l : List Fb} (E : Env w0 w (⟨g1, 24, #[a0, a1, a2]⟩ :: ⟨g2, 24, #[b0, b1, b2]⟩ :: c :: ⟨g4, 24, #[d0, d1, d2]⟩ :: l)) : Env w0 w (⟨g1, 24, #[a0, a1, a2]⟩ :: ⟨g2, 24, #[b0, b1, b2]⟩ :: c :: ⟨g4, 24, #[d0, d1, d2]⟩ :: l) ∧
    w.cell? ⟨g1, 0, none⟩ = some a0 ∧ w.cell? ⟨g1, 1, none⟩ = some a1 ∧ w.cell? ⟨g1, 2, none⟩ = some a2 ∧ w.cell? ⟨g2, 0, none⟩ = some b0 ∧ w.cell? ⟨g2, 1, none⟩ = some b1 ∧ w.cell? ⟨g2, 2, none⟩ = some b2 ∧ w.cell? ⟨g4, 0, none⟩ = some d0 ∧ w.cell? ⟨g4, 1, none⟩ = some d1 ∧ w.cell? ⟨g4, 2, none⟩ = some d2 := by
  have C := E.cells
  simp [BC, CF] at C
  exact ⟨E, C.1.2.1.1, C.1.2.2.1.1, C.1.2.2.2.1, C.2.1.2.1.1, C.2.1.2.2.1.1, C.2.1.2.2.2.1, C.2.2.2.1.2.1.1, C.2.2.2.1.2.2.1.1, C.2.2.2.1.2.2.2.1⟩
set_option maxHeartbeats 8000000 in
set_option maxRecDepth 100000 in
theorem image_44 (t : Tn) (p : Pt) (w : World) (ht : vT t = true) (hp : p.bd 4194304) : Calls Try.prog 93 #[t.val, p.val] w fun e w' => e = .returned (img t p).val ∧ Below w.heap.size w w' := by
  obtain ⟨hx, hy⟩ := vT_ax ht
  have hu := fun W => unit_58 t.x hx W
  have hv := fun W => unit_58 t.y hy W
  have bu := U_bd hx
  have bv := U_bd hy
  have bc := cr_bd bu bv
  obtain ⟨⟨u0, u1, u2⟩, eu⟩ : ∃ q, Hid (U t.x = q) := ⟨_, Lib.hid rfl⟩
  obtain ⟨⟨v0, v1, v2⟩, ev⟩ : ∃ q, Hid (U t.y = q) := ⟨_, Lib.hid rfl⟩
  have HI : Hid (img t p = sm [sc (U t.x) p.x, sc (U t.y) p.y, sc (cr (U t.x) (U t.y)) p.z]) := Lib.hid (by simp [sm, img, ad])
  rw [eu.out, ev.out] at HI
  rw [eu.out] at hu bu bc
  rw [ev.out] at hv bv bc
  rw [HI.out]
  obtain ⟨p, q, r⟩ := p
  obtain ⟨x, y⟩ := t
  clear HI eu ev ht hx hy
  dsimp only [Tn.val, Pt.val, Pt.bd] at hp hu hv ⊢
  obtain ⟨hp0, hp1, hp2⟩ := hp
  have k1 := sc_bd bu (n := p) (B := 4194304) hp0
  have k2 := sc_bd bv (n := q) (B := 4194304) hp1
  have k3 := sc_bd bc (n := r) (B := 4194304) hp2
  have o1 := bd_ok k1 (by decide)
  have o2 := bd_ok k2 (by decide)
  have o3 := bd_ok k3 (by decide)
  have h1 := fun W => times_59 u0 u1 u2 p o1.1 o1.2.1 o1.2.2 W
  have h2 := fun W => times_59 v0 v1 v2 q o2.1 o2.2.1 o2.2.2 W
  have h3 := fun W => cross_60 u0 u1 u2 v0 v1 v2 bu bv W
  have h4 := fun W => times_59 (u1 * v2 - u2 * v1) (u2 * v0 - u0 * v2) (u0 * v1 - u1 * v0) r o3.1 o3.2.1 o3.2.2 W
  have hs := fun g W (hS : Sl W (some ⟨g, 0, none⟩) [sc ⟨u0, u1, u2⟩ p, sc ⟨v0, v1, v2⟩ q, sc (cr ⟨u0, u1, u2⟩ ⟨v0, v1, v2⟩) r]) => sum_any (some ⟨g, 0, none⟩) _ 3 W hS (by
    simp only [List.mem_cons, List.not_mem_nil, or_false, forall_eq_or_imp, forall_eq]
    exact ⟨bd_mono k1 (by decide), bd_mono k2 (by decide), bd_mono k3 (by decide)⟩) (Nat.le_refl 3)
  have HL : Hid (pcells [sc ⟨u0, u1, u2⟩ p, sc ⟨v0, v1, v2⟩ q, sc (cr ⟨u0, u1, u2⟩ ⟨v0, v1, v2⟩) r] = [.int .i64 (u0 * p), .int .i64 (u1 * p), .int .i64 (u2 * p), .int .i64 (v0 * q), .int .i64 (v1 * q), .int .i64 (v2 * q), .int .i64 ((u1 * v2 - u2 * v1) * r), .int .i64 ((u2 * v0 - u0 * v2) * r), .int .i64 ((u0 * v1 - u1 * v0) * r)]) := Lib.hid rfl
  simp only [List.length_cons, List.length_nil, Nat.zero_add, Nat.reduceAdd] at hs
  obtain ⟨L, hL⟩ : ∃ L, L = [sc ⟨u0, u1, u2⟩ p, sc ⟨v0, v1, v2⟩ q, sc (cr ⟨u0, u1, u2⟩ ⟨v0, v1, v2⟩) r] := ⟨_, rfl⟩
  rw [← hL] at hs HL ⊢
  have hLl : Hid (L.length ≤ maxLen) := Lib.hid (by rw [hL]; show 3 ≤ maxLen; decide)
  clear hL k1 k2 k3 o1 o2 o3 bu bv bc hp0 hp1 hp2
  obtain ⟨⟨t0, t1, t2⟩, et⟩ : ∃ q, Hid (sm L = q) := ⟨_, Lib.hid rfl⟩
  rw [et.out] at hs ⊢
  clear et
  unfold pv Pt.val at *
  have E := (((Env.nil w).add w.heap.size 28 #[.int .i64 x, .int .i64 y] rfl).add (w.heap.size + 1) 24 #[.int .i64 p, .int .i64 q, .int .i64 r] (by simp)).add (w.heap.size + 2) 24 #[.int .i64 0, .int .i64 0, .int .i64 0] (by simp)
  have C := E.cells
  simp [BC, CF] at C
  go_enter Try.func93, Try.ntmps93
  go_upto_region 1 with fail
  refine wp_region_free 8 [(0, true), (1, true), (3, true), (4, true), (2, false), (5, false)] [6, 7] (fun _ => (24, #[.int .i64 0, .int .i64 0, .int .i64 0])) (w.heap.size + 3) (fun W' => Env w W' [⟨w.heap.size + 2, 24, #[.int .i64 0, .int .i64 0, .int .i64 0]⟩, ⟨w.heap.size + 1, 24, #[.int .i64 p, .int .i64 q, .int .i64 r]⟩, ⟨w.heap.size, 28, #[.int .i64 x, .int .i64 y]⟩] ∧ W'.cell? ⟨w.heap.size, 0, none⟩ = some (.int .i64 x) ∧ W'.cell? ⟨w.heap.size, 1, none⟩ = some (.int .i64 y)) (by kernel_rfl) (by kernel_rfl) (fun _ _ d _ _ => by cases d <;> exact Iff.rfl) (by
      simp only [List.mem_cons, List.not_mem_nil, or_false, forall_eq_or_imp, forall_eq]
      refine ⟨?_, ?_⟩ <;> (intro o ho; cases ho; exact ⟨fun _ => rfl, fun a w => by first | rfl | (simp [go_sem]; done) | (go_simp; rfl)⟩)) (fun W1 W2 h hb => s_i1 ((h.1).on hb)) (fun W h => h.1.lt 0 (by simp)) (s_i1 E.drw) ?_
  simp only [List.filterMap_cons, List.filterMap_nil, List.getElem?_cons_zero, List.getElem?_cons_succ, Option.map_some, List.drop_succ_cons, List.drop_zero]
  iterate 4 (first | (refine wpFree_still (v := ?_) (Or.inl ⟨by rfl, ?_⟩) ?_; rotate_left; (focus (intro W hW; (try dsimp only at hW); go_split_ands; go_simp; try with_reducible rfl)); try simp only [Act.put, List.setIfInBounds_toArray, List.set_cons_zero, List.set_cons_succ]) | (refine wpFree_still (Or.inr ⟨by rfl, rfl⟩) ?_; try simp only [Act.put, List.setIfInBounds_toArray, List.set_cons_zero, List.set_cons_succ]))
  refine wpFree_only (fun W hS K hK => ?_)
  try go_simp
  (go_at_call 102; (with_reducible refine (hu W).mono ?_); rintro X wq ⟨rfl, hb⟩)
  refine hK.out _ _ hb ?_
  clear hb hS hK K
  try simp only [Act.put, List.setIfInBounds_toArray, List.set_cons_zero, List.set_cons_succ]
  refine wpFree_only (fun W hS K hK => ?_)
  try go_simp
  (go_at_call 102; (with_reducible refine (hv W).mono ?_); rintro X wq ⟨rfl, hb⟩)
  refine hK.out _ _ hb ?_
  clear hb hS hK K
  try simp only [Act.put, List.setIfInBounds_toArray, List.set_cons_zero, List.set_cons_succ]
  refine wpFree_end (fun G W hG hS hL => ?_)
  obtain ⟨gx, gy, eG1, eG2, hN1, hN2, hNe⟩ := hL.two hG (by decide)
  simp only [putA, eG1, eG2, List.getElem?_toArray, List.getElem?_cons_succ, List.getElem?_cons_zero]
  clear eG1 eG2 hL hG G
  try simp only [Act.put, List.setIfInBounds_toArray, List.set_cons_zero, List.set_cons_succ]
  replace E := hS.1.glue2 (B := w.heap.size + 3) (by omega) (by simp) hN1 hN2 hNe
  clear hS hN1 hN2
  have hNe2 : gy ≠ gx := Ne.symm hNe
  replace C := E.cells
  simp [BC, CF] at C
  go_upto_region 2 with fail
  replace E := (E.threeF (.int .i64 u0) (.int .i64 u1) (.int .i64 u2) 0 rfl).threeF (.int .i64 v0) (.int .i64 v1) (.int .i64 v2) 1 rfl
  replace E : Env w ((((((W.setCell ⟨gx, 0, none⟩ (.int .i64 u0)).setCell ⟨gx, 1, none⟩ (.int .i64 u1)).setCell ⟨gx, 2, none⟩ (.int .i64 u2)).setCell ⟨gy, 0, none⟩ (.int .i64 v0)).setCell ⟨gy, 1, none⟩ (.int .i64 v1)).setCell ⟨gy, 2, none⟩ (.int .i64 v2)) [⟨gx, 24, #[.int .i64 u0, .int .i64 u1, .int .i64 u2]⟩, ⟨gy, 24, #[.int .i64 v0, .int .i64 v1, .int .i64 v2]⟩, ⟨w.heap.size + 2, 24, #[.int .i64 0, .int .i64 0, .int .i64 0]⟩, ⟨w.heap.size + 1, 24, #[.int .i64 p, .int .i64 q, .int .i64 r]⟩, ⟨w.heap.size, 28, #[.int .i64 x, .int .i64 y]⟩] := E
  generalize ((((((W.setCell ⟨gx, 0, none⟩ (.int .i64 u0)).setCell ⟨gx, 1, none⟩ (.int .i64 u1)).setCell ⟨gx, 2, none⟩ (.int .i64 u2)).setCell ⟨gy, 0, none⟩ (.int .i64 v0)).setCell ⟨gy, 1, none⟩ (.int .i64 v1)).setCell ⟨gy, 2, none⟩ (.int .i64 v2)) = w2 at *
  refine wp_region_plan 16 [(0, true), (1, true), (2, true), (4, true), (5, true), (6, true), (8, true), (9, true), (11, true), (12, true), (3, false), (7, false), (10, false), (13, false), (14, false), (15, false)] (fun W' => Env w W' [⟨gx, 24, #[.int .i64 u0, .int .i64 u1, .int .i64 u2]⟩, ⟨gy, 24, #[.int .i64 v0, .int .i64 v1, .int .i64 v2]⟩, ⟨w.heap.size + 2, 24, #[.int .i64 0, .int .i64 0, .int .i64 0]⟩, ⟨w.heap.size + 1, 24, #[.int .i64 p, .int .i64 q, .int .i64 r]⟩, ⟨w.heap.size, 28, #[.int .i64 x, .int .i64 y]⟩] ∧ W'.cell? ⟨gx, 0, none⟩ = some (.int .i64 u0) ∧ W'.cell? ⟨gx, 1, none⟩ = some (.int .i64 u1) ∧ W'.cell? ⟨gx, 2, none⟩ = some (.int .i64 u2) ∧ W'.cell? ⟨gy, 0, none⟩ = some (.int .i64 v0) ∧ W'.cell? ⟨gy, 1, none⟩ = some (.int .i64 v1) ∧ W'.cell? ⟨gy, 2, none⟩ = some (.int .i64 v2) ∧ W'.cell? ⟨w.heap.size + 1, 0, none⟩ = some (.int .i64 p) ∧ W'.cell? ⟨w.heap.size + 1, 1, none⟩ = some (.int .i64 q) ∧ W'.cell? ⟨w.heap.size + 1, 2, none⟩ = some (.int .i64 r)) (by kernel_rfl) (by kernel_rfl) (fun _ _ d _ _ h => by cases d <;> exact h) (s_i2 E.drw) ?_
  simp only [List.filterMap_cons, List.filterMap_nil, List.getElem?_cons_zero, List.getElem?_cons_succ, Option.map_some, List.drop_succ_cons, List.drop_zero]
  replace E := E.drw
  iterate 10 (first | (refine wpPlan_still (v := ?_) (Or.inl ⟨by rfl, ?_⟩) ?_; rotate_left; (focus (intro W hW; (try dsimp only at hW); go_split_ands; go_simp; try with_reducible rfl)); try simp only [Act.put, List.setIfInBounds_toArray, List.set_cons_zero, List.set_cons_succ]) | (refine wpPlan_still (Or.inr ⟨by rfl, rfl⟩) ?_; try simp only [Act.put, List.setIfInBounds_toArray, List.set_cons_zero, List.set_cons_succ]))
  refine wpPlan_only (fun K hK => ?_)
  try go_simp
  (go_at_call 101; (with_reducible refine (h1 _).mono ?_); rintro X wq ⟨rfl, hb⟩)
  replace E := E.on hb
  clear hb
  refine hK.out _ _ (s_i2 E) ?_
  clear hK K
  try simp only [Act.put, List.setIfInBounds_toArray, List.set_cons_zero, List.set_cons_succ]
  refine wpPlan_only (fun K hK => ?_)
  try go_simp
  (go_at_call 101; (with_reducible refine (h2 _).mono ?_); rintro X wq ⟨rfl, hb⟩)
  replace E := E.on hb
  clear hb
  refine hK.out _ _ (s_i2 E) ?_
  clear hK K
  try simp only [Act.put, List.setIfInBounds_toArray, List.set_cons_zero, List.set_cons_succ]
  refine wpPlan_only (fun K hK => ?_)
  try go_simp
  (go_at_call 103; (with_reducible refine (h3 _).mono ?_); rintro X wq ⟨rfl, hb⟩)
  replace E := E.on hb
  clear hb
  refine hK.out _ _ (s_i2 E) ?_
  clear hK K
  try simp only [Act.put, List.setIfInBounds_toArray, List.set_cons_zero, List.set_cons_succ]
  refine wpPlan_only (fun K hK => ?_)
  try go_simp
  (go_at_call 101; (with_reducible refine (h4 _).mono ?_); rintro X wq ⟨rfl, hb⟩)
  replace E := E.on hb
  clear hb
  refine hK.out _ _ (s_i2 E) ?_
  clear hK K
  try simp only [Act.put, List.setIfInBounds_toArray, List.set_cons_zero, List.set_cons_succ]
  refine wpPlan_only (fun K hK => ?_)
  try go_simp
  have EB := E.add _ 24 #[.int .i64 (u0 * p), .int .i64 (u1 * p), .int .i64 (u2 * p), .int .i64 (v0 * q), .int .i64 (v1 * q), .int .i64 (v2 * q), .int .i64 ((u1 * v2 - u2 * v1) * r), .int .i64 ((u2 * v0 - u0 * v2) * r), .int .i64 ((u0 * v1 - u1 * v0) * r)] rfl
  have hSl := Sl.lit L EB.2.2.1 HL.out.symm hLl.out
  replace E := E.more (.cells #[.int .i64 (u0 * p), .int .i64 (u1 * p), .int .i64 (u2 * p), .int .i64 (v0 * q), .int .i64 (v1 * q), .int .i64 (v2 * q), .int .i64 ((u1 * v2 - u2 * v1) * r), .int .i64 ((u2 * v0 - u0 * v2) * r), .int .i64 ((u0 * v1 - u1 * v0) * r)] 24)
  refine hK.out _ _ (s_i2 E) ?_
  clear hK K
  try simp only [Act.put, List.setIfInBounds_toArray, List.set_cons_zero, List.set_cons_succ]
  refine wpPlan_only (fun K hK => ?_)
  try go_simp
  (go_at_call 92; (with_reducible refine (hs _ _ hSl).mono ?_); rintro X wq ⟨rfl, hb⟩)
  replace E := E.on hb
  clear hb
  refine hK.out _ _ (s_i2 E) ?_
  clear hK K
  try simp only [Act.put, List.setIfInBounds_toArray, List.set_cons_zero, List.set_cons_succ]
  refine wpPlan_end ?_
  replace C := E.cells
  simp [BC, CF] at C
  go_wp2
  exact bodyPost_ret (v := pv t0 t1 t2) (by simp [results, Try.results93, go_sem, pv, *]) rfl ⟨rfl, envb (E.threeF _ _ _ 2 rfl)⟩
end Go.Proofs.Ytfkcogocaecodaa.Fm
namespace Go.Proofs.Ytfkcogocaecodaa.Fm
open Go.ChangeShapes Go.WideShapes Go.ChangeAt Go.RowKit
set_option linter.unusedVariables false
set_option linter.unusedSimpArgs false

theorem s_a5 {w0 w : World} {g0 g1 g3 : Nat} {a0_0 a0_1 a0_2 a1_0 a1_1 a1_2 a3_0 a3_1 a3_2 : Value} {c2 : Fb} {l : List Fb} (E : Env w0 w (⟨g0, 24, #[a0_0, a0_1, a0_2]⟩ :: ⟨g1, 24, #[a1_0, a1_1, a1_2]⟩ :: c2 :: ⟨g3, 24, #[a3_0, a3_1, a3_2]⟩ :: l)) : Env w0 w (⟨g0, 24, #[a0_0, a0_1, a0_2]⟩ :: ⟨g1, 24, #[a1_0, a1_1, a1_2]⟩ :: c2 :: ⟨g3, 24, #[a3_0, a3_1, a3_2]⟩ :: l) ∧ w.cell? ⟨g0, 0, none⟩ = some a0_0 ∧ w.cell? ⟨g0, 1, none⟩ = some a0_1 ∧ w.cell? ⟨g0, 2, none⟩ = some a0_2 ∧ w.cell? ⟨g1, 0, none⟩ = some a1_0 ∧ w.cell? ⟨g1, 1, none⟩ = some a1_1 ∧ w.cell? ⟨g1, 2, none⟩ = some a1_2 ∧ w.cell? ⟨g3, 0, none⟩ = some a3_0 ∧ w.cell? ⟨g3, 1, none⟩ = some a3_1 ∧ w.cell? ⟨g3, 2, none⟩ = some a3_2 := by
  have C := E.cells
  simp [BC, CF] at C
  exact ⟨E, C.1.2.1.1, C.1.2.2.1.1, C.1.2.2.2.1, C.2.1.2.1.1, C.2.1.2.2.1.1, C.2.1.2.2.2.1, C.2.2.2.1.2.1.1, C.2.2.2.1.2.2.1.1, C.2.2.2.1.2.2.2.1⟩
theorem s_t2 {w0 w : World} {g0 g1 : Nat} {a0_0 a0_1 a1_0 a1_1 : Value} {l : List Fb} (E : Env w0 w (⟨g0, 28, #[a0_0, a0_1]⟩ :: ⟨g1, 28, #[a1_0, a1_1]⟩ :: l)) : Env w0 w (⟨g0, 28, #[a0_0, a0_1]⟩ :: ⟨g1, 28, #[a1_0, a1_1]⟩ :: l) ∧ w.cell? ⟨g0, 0, none⟩ = some a0_0 ∧ w.cell? ⟨g0, 1, none⟩ = some a0_1 ∧ w.cell? ⟨g1, 0, none⟩ = some a1_0 ∧ w.cell? ⟨g1, 1, none⟩ = some a1_1 := by
  have C := E.cells
  simp [BC, CF] at C
  exact ⟨E, C.1.2.1.1, C.1.2.2.1, C.2.1.2.1.1, C.2.1.2.2.1⟩
theorem s_c2 {w0 w : World} {g1 g2 : Nat} {a1_0 a1_1 a2_0 a2_1 : Value} {c0 : Fb} (E : Env w0 w (c0 :: ⟨g1, 28, #[a1_0, a1_1]⟩ :: ⟨g2, 28, #[a2_0, a2_1]⟩ :: [])) : Env w0 w (c0 :: ⟨g1, 28, #[a1_0, a1_1]⟩ :: ⟨g2, 28, #[a2_0, a2_1]⟩ :: []) ∧ w.cell? ⟨g1, 0, none⟩ = some a1_0 ∧ w.cell? ⟨g1, 1, none⟩ = some a1_1 ∧ w.cell? ⟨g2, 0, none⟩ = some a2_0 ∧ w.cell? ⟨g2, 1, none⟩ = some a2_1 := by
  have C := E.cells
  simp [BC, CF] at C
  exact ⟨E, C.2.1.2.1.1, C.2.1.2.2.1, C.2.2.2.1.1, C.2.2.2.2.1⟩
theorem s_p2 {w0 w : World} {g0 g1 : Nat} {a0_0 a0_1 a0_2 a1_0 a1_1 a1_2 : Value} (E : Env w0 w (⟨g0, 24, #[a0_0, a0_1, a0_2]⟩ :: ⟨g1, 24, #[a1_0, a1_1, a1_2]⟩ :: [])) : Env w0 w (⟨g0, 24, #[a0_0, a0_1, a0_2]⟩ :: ⟨g1, 24, #[a1_0, a1_1, a1_2]⟩ :: []) ∧ w.cell? ⟨g0, 0, none⟩ = some a0_0 ∧ w.cell? ⟨g0, 1, none⟩ = some a0_1 ∧ w.cell? ⟨g0, 2, none⟩ = some a0_2 ∧ w.cell? ⟨g1, 0, none⟩ = some a1_0 ∧ w.cell? ⟨g1, 1, none⟩ = some a1_1 ∧ w.cell? ⟨g1, 2, none⟩ = some a1_2 := by
  have C := E.cells
  simp [BC, CF] at C
  exact ⟨E, C.1.2.1.1, C.1.2.2.1.1, C.1.2.2.2.1, C.2.2.1.1, C.2.2.2.1.1, C.2.2.2.2.1⟩
theorem ne37 (x y : Pt) (W : World) : (binOp .neq 24 x.val y.val).run Try.prog W = .ok (.bool (!decide (x = y))) W := by
  unfold Pt.val
  rw [run_neq_struct, run_equalIn_agg (ht := by kernel_rfl) (hp := by kernel_rfl)]
  simp [go_sem, Program.fieldsOf, Try.underlying24]
  obtain ⟨a, b, c⟩ := x
  obtain ⟨a', b', c'⟩ := y
  simp only [Pt.mk.injEq]
  by_cases h1 : a = a' <;> by_cases h2 : b = b' <;> by_cases h3 : c = c' <;> simp [h1, h2, h3]
theorem eq37 (x y : Pt) (W : World) : (binOp .eql 24 x.val y.val).run Try.prog W = .ok (.bool (decide (x = y))) W := by
  unfold Pt.val
  rw [run_eql_struct, run_equalIn_agg (ht := by kernel_rfl) (hp := by kernel_rfl)]
  simp [go_sem, Program.fieldsOf, Try.underlying24]
  obtain ⟨a, b, c⟩ := x
  obtain ⟨a', b', c'⟩ := y
  simp only [Pt.mk.injEq]
  by_cases h1 : a = a' <;> by_cases h2 : b = b' <;> by_cases h3 : c = c' <;> simp [h1, h2, h3]
end Go.Proofs.Ytfkcogocaecodaa.Fm
namespace Go.Proofs.Ytfkcogocaecodaa.Fm
open Go.ChangeShapes Go.WideShapes Go.ChangeAt Go.RowKit
set_option linter.unusedVariables false
set_option linter.unusedSimpArgs false

def nB (n : Int) : Bool := decide (-1048576 ≤ n) && decide (n ≤ 1048576)
def nearB (p : Pt) : Bool := nB p.x && nB p.y && nB p.z
theorem nearB_bd {p : Pt} (h : nearB p = true) : p.bd 1048576 := by
  simp only [nearB, nB, Bool.and_eq_true, decide_eq_true_eq] at h
  unfold Pt.bd; omega
theorem bd_nearB {p : Pt} (h : p.bd 1048576) : nearB p = true := by
  simp only [nearB, nB, Bool.and_eq_true, decide_eq_true_eq]
  unfold Pt.bd at h; omega
theorem within_50 (n : Int) (w : World) : Calls Try.prog 54 #[.int .i64 n] w fun e w' => e = .returned (.bool (nB n)) ∧ w = w' := by
  unfold nB
  go_enter Try.func54, Try.ntmps54
  by_cases h1 : -1048576 ≤ n
  · have e1 : decide (-1048576 ≤ n) = true := by simp [h1]
    have e4 : decide (n ≥ -1048576) = true := by simp; omega
    go_wp2
    go_ret
    exact ⟨by simp [h1], rfl⟩
  · have e1 : decide (-1048576 ≤ n) = false := by simp [h1]
    have e4 : decide (n ≥ -1048576) = false := by simp; omega
    go_wp2
    go_ret
    exact ⟨by simp [h1], rfl⟩
set_option maxHeartbeats 8000000 in
set_option maxRecDepth 100000 in
theorem near_23 (p : Pt) (w : World) : Calls Try.prog 38 #[p.val] w fun e w' => e = .returned (.bool (nearB p)) ∧ Below w.heap.size w w' := by
  obtain ⟨x, y, z⟩ := p
  have hx := fun W => within_50 x W
  have hy := fun W => within_50 y W
  have hz := fun W => within_50 z W
  unfold nearB Pt.val
  dsimp only
  have b0 := al1 w (.cells #[.int .i64 x, .int .i64 y, .int .i64 z] 24)
  generalize nB x = bx at *
  generalize nB y = b_y at *
  generalize nB z = bz at *
  go_enter Try.func38, Try.ntmps38
  cases bx
  · go_wp2_with (first | (go_at_call 54; (with_reducible refine (hx _).mono ?_); rintro e1 w1 ⟨rfl, rfl⟩) | (go_at_call 54; (with_reducible refine (hy _).mono ?_); rintro e1 w1 ⟨rfl, rfl⟩) | (go_at_call 54; (with_reducible refine (hz _).mono ?_); rintro e1 w1 ⟨rfl, rfl⟩))
    go_ret
    exact ⟨rfl, b0⟩
  · cases b_y
    · go_wp2_with (first | (go_at_call 54; (with_reducible refine (hx _).mono ?_); rintro e1 w1 ⟨rfl, rfl⟩) | (go_at_call 54; (with_reducible refine (hy _).mono ?_); rintro e1 w1 ⟨rfl, rfl⟩) | (go_at_call 54; (with_reducible refine (hz _).mono ?_); rintro e1 w1 ⟨rfl, rfl⟩))
      go_ret
      exact ⟨rfl, b0⟩
    · go_wp2_with (first | (go_at_call 54; (with_reducible refine (hx _).mono ?_); rintro e1 w1 ⟨rfl, rfl⟩) | (go_at_call 54; (with_reducible refine (hy _).mono ?_); rintro e1 w1 ⟨rfl, rfl⟩) | (go_at_call 54; (with_reducible refine (hz _).mono ?_); rintro e1 w1 ⟨rfl, rfl⟩))
      go_ret
      exact ⟨rfl, b0⟩
set_option maxHeartbeats 8000000 in
set_option maxRecDepth 100000 in
theorem far_a (x y z : Int) (hc : ¬ (x ≤ 1048576 ∧ y ≤ 1048576 ∧ z ≤ 1048576)) (w : World) : Calls Try.prog 91 #[.agg #[.int .i64 x, .int .i64 y, .int .i64 z]] w fun e w' => e = .returned (.bool (!nearB ⟨x, y, z⟩)) ∧ Below w.heap.size w w' := by
  have h1 := fun W => mmin_45 x y z 1048576 1048576 1048576 W
  have hR : (!nearB ⟨x, y, z⟩) = true := by simp only [nearB, nB, Bool.not_eq_true', Bool.not_eq_false', Bool.and_eq_true, Bool.and_eq_false_iff, decide_eq_true_eq, decide_eq_false_iff_not]; omega
  have n1 : ∀ W, (binOp .neq 24 (.agg #[.int .i64 (min x 1048576), .int .i64 (min y 1048576), .int .i64 (min z 1048576)]) (.agg #[.int .i64 x, .int .i64 y, .int .i64 z])).run Try.prog W = .ok (.bool true) W := fun W => (ne37 ⟨(min x 1048576), (min y 1048576), (min z 1048576)⟩ ⟨x, y, z⟩ W).trans (by rw [decide_eq_false (by simp only [Pt.mk.injEq]; omega)]; rfl)
  clear hc
  have E := ((Env.nil w).add w.heap.size 24 #[.int .i64 x, .int .i64 y, .int .i64 z] rfl).add (w.heap.size + 1) 24 #[.int .i64 1048576, .int .i64 1048576, .int .i64 1048576] (by simp)
  have C := E.cells
  simp [BC, CF] at C
  rw [hR]
  unfold pv Pt.val at *
  dsimp only at h1
  clear hR
  go_enter Try.func91, Try.ntmps91
  go_upto_region 2 with fail
  generalize (min x 1048576) = m0 at *
  generalize (min y 1048576) = m1 at *
  generalize (min z 1048576) = m2 at *
  refine wp_region_plan 13 [(0, true), (1, true), (3, true), (2, false), (4, true), (5, true), (6, true), (7, true), (10, true), (8, false), (9, false), (11, true), (12, true)] (fun W' => Env w W' [⟨w.heap.size + 1, 24, #[.int .i64 1048576, .int .i64 1048576, .int .i64 1048576]⟩, ⟨w.heap.size, 24, #[.int .i64 x, .int .i64 y, .int .i64 z]⟩] ∧ W'.cell? ⟨w.heap.size + 1, 0, none⟩ = some (.int .i64 1048576) ∧ W'.cell? ⟨w.heap.size + 1, 1, none⟩ = some (.int .i64 1048576) ∧ W'.cell? ⟨w.heap.size + 1, 2, none⟩ = some (.int .i64 1048576) ∧ W'.cell? ⟨w.heap.size, 0, none⟩ = some (.int .i64 x) ∧ W'.cell? ⟨w.heap.size, 1, none⟩ = some (.int .i64 y) ∧ W'.cell? ⟨w.heap.size, 2, none⟩ = some (.int .i64 z)) (by kernel_rfl) (by kernel_rfl) (fun _ _ d _ _ h => by cases d <;> exact h) (s_p2 E.drw) ?_
  simp only [List.filterMap_cons, List.filterMap_nil, List.getElem?_cons_zero, List.getElem?_cons_succ, Option.map_some, List.drop_succ_cons, List.drop_zero]
  replace E := E.drw
  iterate 3 (first | (refine wpPlan_still (v := ?_) (Or.inl ⟨by rfl, ?_⟩) ?_; rotate_left; (focus (intro W hW; (try dsimp only at hW); go_split_ands; go_simp; try with_reducible rfl)); try simp only [Act.put, List.setIfInBounds_toArray, List.set_cons_zero, List.set_cons_succ]) | (refine wpPlan_still (Or.inr ⟨by rfl, rfl⟩) ?_; try simp only [Act.put, List.setIfInBounds_toArray, List.set_cons_zero, List.set_cons_succ]))
  refine wpPlan_only (fun K hK => ?_)
  try go_simp
  (go_at_call 99; (with_reducible refine (h1 _).mono ?_); rintro X wq ⟨rfl, hb⟩)
  replace E := E.on hb
  clear hb
  refine hK.out _ _ (s_p2 E) ?_
  clear hK K
  try simp only [Act.put, List.setIfInBounds_toArray, List.set_cons_zero, List.set_cons_succ]
  iterate 5 (first | (refine wpPlan_still (v := ?_) (Or.inl ⟨by rfl, ?_⟩) ?_; rotate_left; (focus (intro W hW; (try dsimp only at hW); go_split_ands; go_simp; try with_reducible rfl)); try simp only [Act.put, List.setIfInBounds_toArray, List.set_cons_zero, List.set_cons_succ]) | (refine wpPlan_still (Or.inr ⟨by rfl, rfl⟩) ?_; try simp only [Act.put, List.setIfInBounds_toArray, List.set_cons_zero, List.set_cons_succ]))
  refine wpPlan_only (fun K hK => ?_)
  rw [if_neg (by exact Bool.false_ne_true)]
  refine hK.out _ _ (s_p2 E) ?_
  clear hK K
  try simp only [Act.put, List.setIfInBounds_toArray, List.set_cons_zero, List.set_cons_succ]
  refine wpPlan_only (fun K hK => ?_)
  rw [if_neg (by exact Bool.false_ne_true)]
  refine hK.out _ _ (s_p2 E) ?_
  clear hK K
  try simp only [Act.put, List.setIfInBounds_toArray, List.set_cons_zero, List.set_cons_succ]
  iterate 2 (first | (refine wpPlan_still (v := ?_) (Or.inl ⟨by rfl, ?_⟩) ?_; rotate_left; (focus (intro W hW; (try dsimp only at hW); go_split_ands; go_simp; try with_reducible rfl)); try simp only [Act.put, List.setIfInBounds_toArray, List.set_cons_zero, List.set_cons_succ]) | (refine wpPlan_still (Or.inr ⟨by rfl, rfl⟩) ?_; try simp only [Act.put, List.setIfInBounds_toArray, List.set_cons_zero, List.set_cons_succ]))
  refine wpPlan_end ?_
  replace C := E.cells
  simp [BC, CF] at C
  go_wp2
  go_ret
  exact ⟨rfl, envb E⟩
set_option maxHeartbeats 8000000 in
set_option maxRecDepth 100000 in
theorem far_b (x y z : Int) (hc : (x ≤ 1048576 ∧ y ≤ 1048576 ∧ z ≤ 1048576)) (w : World) : Calls Try.prog 91 #[.agg #[.int .i64 x, .int .i64 y, .int .i64 z]] w fun e w' => e = .returned (.bool (!nearB ⟨x, y, z⟩)) ∧ Below w.heap.size w w' := by
  have h1 := fun W => mmin_45 x y z 1048576 1048576 1048576 W
  have n1 : ∀ W, (binOp .neq 24 (.agg #[.int .i64 (min x 1048576), .int .i64 (min y 1048576), .int .i64 (min z 1048576)]) (.agg #[.int .i64 x, .int .i64 y, .int .i64 z])).run Try.prog W = .ok (.bool false) W := fun W => (ne37 ⟨(min x 1048576), (min y 1048576), (min z 1048576)⟩ ⟨x, y, z⟩ W).trans (by rw [decide_eq_true (by simp only [Pt.mk.injEq]; omega)]; rfl)
  have n2 : ∀ W, (binOp .neq 24 (.agg #[.int .i64 (max x (-1048576)), .int .i64 (max y (-1048576)), .int .i64 (max z (-1048576))]) (.agg #[.int .i64 x, .int .i64 y, .int .i64 z])).run Try.prog W = .ok (.bool (!nearB ⟨x, y, z⟩)) W := fun W => (ne37 ⟨(max x (-1048576)), (max y (-1048576)), (max z (-1048576))⟩ ⟨x, y, z⟩ W).trans (by
    have e : (!decide ((⟨(max x (-1048576)), (max y (-1048576)), (max z (-1048576))⟩ : Pt) = ⟨x, y, z⟩)) = (!nearB ⟨x, y, z⟩) := by
      congr 1
      rw [Bool.eq_iff_iff]
      simp only [nearB, nB, Bool.and_eq_true, decide_eq_true_eq, Pt.mk.injEq]; omega
    rw [e])
  have h2 : ∀ W, Calls Try.prog 101 #[.agg #[.int .i64 1048576, .int .i64 1048576, .int .i64 1048576], .int .i64 (-1)] W fun e w' => e = .returned (.agg #[.int .i64 (-1048576), .int .i64 (-1048576), .int .i64 (-1048576)]) ∧ Below W.heap.size W w' := fun W => times_59 1048576 1048576 1048576 (-1) (by unfold I64; decide) (by unfold I64; decide) (by unfold I64; decide) W
  have h3 := fun W => mmax_47 x y z (-1048576) (-1048576) (-1048576) W
  clear hc
  obtain ⟨R, hR⟩ : ∃ R, (!nearB ⟨x, y, z⟩) = R := ⟨_, rfl⟩
  rw [hR] at n2
  have E := ((Env.nil w).add w.heap.size 24 #[.int .i64 x, .int .i64 y, .int .i64 z] rfl).add (w.heap.size + 1) 24 #[.int .i64 1048576, .int .i64 1048576, .int .i64 1048576] (by simp)
  have C := E.cells
  simp [BC, CF] at C
  rw [hR]
  unfold pv Pt.val at *
  dsimp only at h1 h3
  clear hR
  go_enter Try.func91, Try.ntmps91
  go_upto_region 2 with fail
  generalize (min x 1048576) = m0 at *
  generalize (min y 1048576) = m1 at *
  generalize (min z 1048576) = m2 at *
  generalize (max x (-1048576)) = k0 at *
  generalize (max y (-1048576)) = k1 at *
  generalize (max z (-1048576)) = k2 at *
  refine wp_region_plan 13 [(0, true), (1, true), (3, true), (2, false), (4, true), (5, true), (6, true), (7, true), (10, true), (8, false), (9, false), (11, true), (12, true)] (fun W' => Env w W' [⟨w.heap.size + 1, 24, #[.int .i64 1048576, .int .i64 1048576, .int .i64 1048576]⟩, ⟨w.heap.size, 24, #[.int .i64 x, .int .i64 y, .int .i64 z]⟩] ∧ W'.cell? ⟨w.heap.size + 1, 0, none⟩ = some (.int .i64 1048576) ∧ W'.cell? ⟨w.heap.size + 1, 1, none⟩ = some (.int .i64 1048576) ∧ W'.cell? ⟨w.heap.size + 1, 2, none⟩ = some (.int .i64 1048576) ∧ W'.cell? ⟨w.heap.size, 0, none⟩ = some (.int .i64 x) ∧ W'.cell? ⟨w.heap.size, 1, none⟩ = some (.int .i64 y) ∧ W'.cell? ⟨w.heap.size, 2, none⟩ = some (.int .i64 z)) (by kernel_rfl) (by kernel_rfl) (fun _ _ d _ _ h => by cases d <;> exact h) (s_p2 E.drw) ?_
  simp only [List.filterMap_cons, List.filterMap_nil, List.getElem?_cons_zero, List.getElem?_cons_succ, Option.map_some, List.drop_succ_cons, List.drop_zero]
  replace E := E.drw
  iterate 3 (first | (refine wpPlan_still (v := ?_) (Or.inl ⟨by rfl, ?_⟩) ?_; rotate_left; (focus (intro W hW; (try dsimp only at hW); go_split_ands; go_simp; try with_reducible rfl)); try simp only [Act.put, List.setIfInBounds_toArray, List.set_cons_zero, List.set_cons_succ]) | (refine wpPlan_still (Or.inr ⟨by rfl, rfl⟩) ?_; try simp only [Act.put, List.setIfInBounds_toArray, List.set_cons_zero, List.set_cons_succ]))
  refine wpPlan_only (fun K hK => ?_)
  try go_simp
  (go_at_call 99; (with_reducible refine (h1 _).mono ?_); rintro X wq ⟨rfl, hb⟩)
  replace E := E.on hb
  clear hb
  refine hK.out _ _ (s_p2 E) ?_
  clear hK K
  try simp only [Act.put, List.setIfInBounds_toArray, List.set_cons_zero, List.set_cons_succ]
  iterate 5 (first | (refine wpPlan_still (v := ?_) (Or.inl ⟨by rfl, ?_⟩) ?_; rotate_left; (focus (intro W hW; (try dsimp only at hW); go_split_ands; go_simp; try with_reducible rfl)); try simp only [Act.put, List.setIfInBounds_toArray, List.set_cons_zero, List.set_cons_succ]) | (refine wpPlan_still (Or.inr ⟨by rfl, rfl⟩) ?_; try simp only [Act.put, List.setIfInBounds_toArray, List.set_cons_zero, List.set_cons_succ]))
  refine wpPlan_only (fun K hK => ?_)
  try go_simp
  (go_at_call 101; (with_reducible refine (h2 _).mono ?_); rintro X wq ⟨rfl, hb⟩)
  replace E := E.on hb
  clear hb
  refine hK.out _ _ (s_p2 E) ?_
  clear hK K
  try simp only [Act.put, List.setIfInBounds_toArray, List.set_cons_zero, List.set_cons_succ]
  refine wpPlan_only (fun K hK => ?_)
  try go_simp
  (go_at_call 100; (with_reducible refine (h3 _).mono ?_); rintro X wq ⟨rfl, hb⟩)
  replace E := E.on hb
  clear hb
  refine hK.out _ _ (s_p2 E) ?_
  clear hK K
  try simp only [Act.put, List.setIfInBounds_toArray, List.set_cons_zero, List.set_cons_succ]
  iterate 2 (first | (refine wpPlan_still (v := ?_) (Or.inl ⟨by rfl, ?_⟩) ?_; rotate_left; (focus (intro W hW; (try dsimp only at hW); go_split_ands; go_simp; try with_reducible rfl)); try simp only [Act.put, List.setIfInBounds_toArray, List.set_cons_zero, List.set_cons_succ]) | (refine wpPlan_still (Or.inr ⟨by rfl, rfl⟩) ?_; try simp only [Act.put, List.setIfInBounds_toArray, List.set_cons_zero, List.set_cons_succ]))
  refine wpPlan_end ?_
  replace C := E.cells
  simp [BC, CF] at C
  go_wp2
  go_ret
  exact ⟨rfl, envb E⟩
theorem far_43 (p : Pt) (w : World) : Calls Try.prog 91 #[p.val] w fun e w' => e = .returned (.bool (!nearB p)) ∧ Below w.heap.size w w' := by
  obtain ⟨x, y, z⟩ := p
  by_cases hc : x ≤ 1048576 ∧ y ≤ 1048576 ∧ z ≤ 1048576
  · exact far_b x y z hc w
  · exact far_a x y z hc w
end Go.Proofs.Ytfkcogocaecodaa.Fm
namespace Go.Proofs.Ytfkcogocaecodaa.Fm
open Go.ChangeShapes Go.WideShapes Go.ChangeAt Go.RowKit
set_option linter.unusedVariables false
set_option linter.unusedSimpArgs false

def tc (p : Tn) : List Value := [.int .i64 p.x, .int .i64 p.y]
theorem tl (p : Tn) : (tc p).length = 2 := rfl
theorem env_grown {w0 w1 w2 : World} {l : List Fb} {row : Option Nat} (E : Env w0 w1 l) (hg : w1.grownBy w2 row) (hr : ∀ k, row = some k → ∀ y ∈ l, y.g < k) (hr0 : ∀ k, row = some k → w0.heap.size ≤ k) : Env w0 w2 l := by
  refine ⟨E.1.grown hg E.1.size hr0, ?_⟩
  have go : ∀ l' : List Fb, (∀ y ∈ l', ∀ k, row = some k → y.g < k) → Blk w0.heap.size w1 l' → Blk w0.heap.size w2 l' := by
    intro l'
    induction l' with
    | nil => intro _ _; trivial
    | cons x l' ih =>
      intro h h2
      refine ⟨h2.1, Has.grown_ h2.2.1 hg (fun e => ?_), h2.2.2.1, ih (fun y hy => h y (List.mem_cons_of_mem _ hy)) h2.2.2.2⟩
      have := h x (List.mem_cons_self ..) x.g e.symm
      omega
  exact go l (fun y hy k hk => hr k hk y hy) E.2
theorem info23 : (Try.prog.info? 28).map (fun i => (i.zero, i.size, i.bytes)) = some (some (.agg #[.int .i64 0, .int .i64 0]), 2, 16) := by kernel_rfl
theorem info37 : (Try.prog.info? 24).map (fun i => (i.zero, i.size, i.bytes)) = some (some (.agg #[.int .i64 0, .int .i64 0, .int .i64 0]), 3, 24) := by kernel_rfl
/-- The turns among the first m pairs of axes. -/
def aF (m : Nat) : List Tn := (allQ.take m).filter vT
theorem aF_end : aF 49 = allT := by
  unfold aF allT
  rw [List.take_of_length_le (by decide)]
theorem aF_len (m : Nat) : (aF m).length ≤ 49 := by
  unfold aF
  refine Nat.le_trans (List.length_filter_le _ _) ?_
  rw [List.length_take]
  exact Nat.le_trans (Nat.min_le_right _ _) (by decide)
theorem allQ_at : ∀ i, i < 7 → ∀ j, j < 7 → allQ[7 * i + j]? = some ⟨(i : Int) - 3, (j : Int) - 3⟩ := by decide +kernel
theorem aF_step {i j : Nat} (hi : i < 7) (hj : j < 7) : aF (7 * i + (j + 1)) = if vT ⟨(i : Int) - 3, (j : Int) - 3⟩ = true then aF (7 * i + j) ++ [⟨(i : Int) - 3, (j : Int) - 3⟩] else aF (7 * i + j) := by
  have h := allQ_at i hi j hj
  unfold aF
  rw [← Nat.add_assoc, List.take_add_one, h, List.filter_append]
  simp only [Option.toList_some, List.filter_cons, List.filter_nil]
  split <;> simp
end Go.Proofs.Ytfkcogocaecodaa.Fm
namespace Go.Proofs.Ytfkcogocaecodaa.Fm
open Go.ChangeShapes Go.WideShapes Go.ChangeAt Go.RowKit
set_option linter.unusedVariables false
set_option linter.unusedSimpArgs false

theorem all_drop {l : List Pt} {k : Nat} (hk : k < l.length) (h : ∀ x ∈ l.take k, nearB x = true) (hv : nearB l[k] = true) : ∀ x ∈ l.take (k + 1), nearB x = true := by
  intro x hx
  rw [List.take_succ_eq_append_getElem hk, List.mem_append] at hx
  rcases hx with hx | hx
  · exact h x hx
  · rw [List.mem_singleton.1 hx]; exact hv
set_option maxRecDepth 100000 in
theorem idx_43 (p : Option Addr) (l : List Pt) (cap : Nat) (w : World) (hS : Sl w p l) :
    Calls Try.prog 94 #[.slice p l.length cap, .func (.func 91) #[] #[]] w fun e w' => ∃ i : Int, e = .returned (.int .i64 i) ∧ decide (0 ≤ i) = !l.all nearB ∧ Below w.heap.size w w' := by
  have hm := hS.2.2
  unfold maxLen at hm
  go_enter Try.func94, Try.ntmps94
  go_wp2
  go_loopw [8] (fun v wr => ∃ k : Nat, v = .int .i64 k ∧ k ≤ l.length ∧ Hid (∀ x ∈ l.take k, nearB x = true) ∧ Below w.heap.size w wr) (fun v _ => l.length - (intOf v).toNat)
  case atStart => exact ⟨0, rfl, Nat.zero_le _, Lib.hid (by simp), Below.refl _ _⟩
  case round =>
    obtain ⟨k, rfl, hk, hG, hB⟩ := hrel
    by_cases hlt : k < l.length
    · have g1 : decide ((k : Int) < (l.length : Int)) = true := by simp [hlt]
      obtain ⟨a, rfl, c0, c1, c2⟩ := (hS.on hB).at hlt
      have W1 : IntKind.i64.wrap ((k : Int) + 1) = ((k + 1 : Nat) : Int) := by rw [IntWalk.i64_in _ (by omega)]; omega
      have hb := fun w => far_43 l[k] w
      unfold Pt.val at hb
      cases hv : nearB l[k]
      · have e : l.all nearB = false := List.all_eq_false.2 ⟨_, List.getElem_mem hlt, by simp [hv]⟩
        simp only [hv, Bool.not_false] at hb
        go_wp2_with (go_at_call 91; (with_reducible refine (hb _).mono ?_); rintro e1 w1 ⟨rfl, hb1⟩)
        go_ret
        exact ⟨_, rfl, by rw [e]; simp, belows hB hb1⟩
      · simp only [hv, Bool.not_true] at hb
        go_wp2_with (go_at_call 91; (with_reducible refine (hb _).mono ?_); rintro e1 w1 ⟨rfl, hb1⟩)
        exact ⟨⟨k + 1, rfl, hlt, Lib.hid (all_drop hlt hG.out hv), belows hB hb1⟩, by simp [intOf]; omega⟩
    · have g1 : decide ((k : Int) < (l.length : Int)) = false := by simp; omega
      go_wp2
      go_ret
      have := hG.out
      rw [List.take_of_length_le (by omega)] at this
      have e : l.all nearB = true := List.all_eq_true.2 this
      exact ⟨-1, rfl, by rw [e]; rfl, hB⟩
theorem con_43 (p : Option Addr) (l : List Pt) (cap : Nat) (w : World) (hS : Sl w p l) :
    Calls Try.prog 84 #[.slice p l.length cap, .func (.func 91) #[] #[]] w fun e w' => e = .returned (.bool (!l.all nearB)) ∧ Below w.heap.size w w' := by
  go_enter Try.func84, Try.ntmps84
  go_wp2_with (go_at_call 94; (with_reducible refine (idx_43 p l cap _ hS).mono ?_); rintro e1 w1 ⟨i, rfl, hi, hb1⟩)
  go_ret
  exact ⟨rfl, hb1⟩
end Go.Proofs.Ytfkcogocaecodaa.Fm
namespace Go.Proofs.Ytfkcogocaecodaa.Fm
open Go.ChangeShapes Go.WideShapes Go.ChangeAt Go.RowKit
set_option linter.unusedVariables false
set_option linter.unusedSimpArgs false

def psL (t : Tn) (at_ : Pt) (l : List Pt) : List Pt := l.map fun x => ad (img t x) at_
theorem ps_step {t : Tn} {at_ : Pt} {l : List Pt} {k : Nat} (hk : k < l.length) : psL t at_ (l.take (k + 1)) = psL t at_ (l.take k) ++ [ad (img t l[k]) at_] := by
  rw [List.take_succ_eq_append_getElem hk, psL, List.map_append]; rfl
theorem own_nil {α : Type} (f : α → List Value) (t : TypeId) (s B : Nat) (w : World) : Own f t s B w (.slice none 0 0) [] := ⟨by simp, .inl ⟨rfl, rfl⟩⟩
theorem sum2_any (P A : Pt) (hP : P.bd 1048576) (hA : A.bd 1048576) (g : Nat) (W : World) (hS : Sl W (some ⟨g, 0, none⟩) [P, A]) : Calls Try.prog 92 #[.slice (some ⟨g, 0, none⟩) 2 2] W fun e w' => e = .returned (ad P A).val ∧ Below W.heap.size W w' := by
  have h := sum_any (some ⟨g, 0, none⟩) [P, A] 2 W hS (by
    simp only [List.mem_cons, List.not_mem_nil, or_false, forall_eq_or_imp, forall_eq]
    exact ⟨bd_mono hP (by decide), bd_mono hA (by decide)⟩) (show 2 ≤ 3 by decide)
  rw [show sm [P, A] = ad P A by simp [sm, ad]] at h
  exact h
theorem s_pa {w0 w : World} {g0 g1 g2 : Nat} {a0_0 a0_1 a0_2 a1_0 a1_1 a1_2 a2_0 a2_1 : Value} (E : Env w0 w (⟨g0, 24, #[a0_0, a0_1, a0_2]⟩ :: ⟨g1, 24, #[a1_0, a1_1, a1_2]⟩ :: ⟨g2, 28, #[a2_0, a2_1]⟩ :: [])) : Env w0 w (⟨g0, 24, #[a0_0, a0_1, a0_2]⟩ :: ⟨g1, 24, #[a1_0, a1_1, a1_2]⟩ :: ⟨g2, 28, #[a2_0, a2_1]⟩ :: []) ∧ w.cell? ⟨g0, 0, none⟩ = some a0_0 ∧ w.cell? ⟨g0, 1, none⟩ = some a0_1 ∧ w.cell? ⟨g0, 2, none⟩ = some a0_2 ∧ w.cell? ⟨g1, 0, none⟩ = some a1_0 ∧ w.cell? ⟨g1, 1, none⟩ = some a1_1 ∧ w.cell? ⟨g1, 2, none⟩ = some a1_2 ∧ w.cell? ⟨g2, 0, none⟩ = some a2_0 ∧ w.cell? ⟨g2, 1, none⟩ = some a2_1 := by
  have C := E.cells
  simp [BC, CF] at C
  exact ⟨E, C.1.2.1.1, C.1.2.2.1.1, C.1.2.2.2.1, C.2.1.2.1.1, C.2.1.2.2.1.1, C.2.1.2.2.2.1, C.2.2.2.1.1, C.2.2.2.2.1⟩
theorem s_pb {w0 w : World} {g0 g1 : Nat} {a0_0 a0_1 a0_2 a1_0 a1_1 : Value} (E : Env w0 w (⟨g0, 24, #[a0_0, a0_1, a0_2]⟩ :: ⟨g1, 28, #[a1_0, a1_1]⟩ :: [])) : Env w0 w (⟨g0, 24, #[a0_0, a0_1, a0_2]⟩ :: ⟨g1, 28, #[a1_0, a1_1]⟩ :: []) ∧ w.cell? ⟨g0, 0, none⟩ = some a0_0 ∧ w.cell? ⟨g0, 1, none⟩ = some a0_1 ∧ w.cell? ⟨g0, 2, none⟩ = some a0_2 ∧ w.cell? ⟨g1, 0, none⟩ = some a1_0 ∧ w.cell? ⟨g1, 1, none⟩ = some a1_1 := by
  have C := E.cells
  simp [BC, CF] at C
  exact ⟨E, C.1.2.1.1, C.1.2.2.1.1, C.1.2.2.2.1, C.2.2.1.1, C.2.2.2.1⟩
set_option maxHeartbeats 8000000 in
set_option maxRecDepth 100000 in
theorem Path_ok (t : Tn) (at_ : Pt) (p : Option Addr) (l : List Pt) (cap : Nat) (w : World) (hS : Sl w p l) (ht : vT t = true) (hl : l.length ≤ 1000) (hn : nearB at_ = true) (ha : l.all nearB = true) :
    Calls Try.prog 83 #[t.val, at_.val, .slice p l.length cap] w fun e w' => ∃ v, e = .returned (.tuple #[v, .int .i64 0]) ∧ Own pc 24 3 w.heap.size w' v (psL t at_ l) ∧ Below w.heap.size w w' := by
  have h1 := fun W => valid_11 t W
  have f1 := fun W => far_43 at_ W
  have hc := fun W (h : Below w.heap.size w W) => con_43 p l cap W (hS.on h)
  have HI := Lib.hid (fun x (hx : x ∈ l) W => image_44 t x W ht (bd_mono (nearB_bd (List.all_eq_true.1 ha x hx)) (by decide)))
  have HB := Lib.hid (fun x (hx : x ∈ l) => img_bd ht (nearB_bd (List.all_eq_true.1 ha x hx)))
  rw [ht] at h1
  rw [hn] at f1
  rw [ha] at hc
  have HA := Lib.hid (nearB_bd hn)
  have HS := Lib.hid hS
  have HP := Lib.hid (fun k (hk : k < l.length) => ps_step (t := t) (at_ := at_) hk)
  have H0 : Hid (psL t at_ (l.take 0) = []) := Lib.hid rfl
  have HN : Hid (psL t at_ (l.take l.length) = psL t at_ l) := Lib.hid (by rw [List.take_length])
  have HL := Lib.hid (fun k => show (psL t at_ (l.take k)).length ≤ k by rw [psL, List.length_map, List.length_take]; exact Nat.min_le_left _ _)
  have HL2 := Lib.hid (fun k (hk : k ≤ l.length) => show (psL t at_ (l.take k)).length = k by rw [psL, List.length_map, List.length_take]; omega)
  rw [← HN.out]
  clear ht hn ha hS HN
  obtain ⟨PS, hPS⟩ : ∃ PS : Nat → List Pt, PS = fun k => psL t at_ (l.take k) := ⟨_, rfl⟩
  have HPS : ∀ k, psL t at_ (l.take k) = PS k := fun k => by rw [hPS]
  simp only [HPS] at HP H0 HL HL2 ⊢
  clear HPS hPS
  obtain ⟨n, hn⟩ : ∃ n, Hid (l.length = n) := ⟨_, Lib.hid rfl⟩
  rw [hn.out] at hl hc ⊢
  obtain ⟨i0, hinf, hz0, hz1, hz2⟩ := info_parts info37
  obtain ⟨im, hm⟩ : ∃ im : Pt → Pt, im = img t := ⟨_, rfl⟩
  rw [← hm] at HI HB HP
  clear hm
  obtain ⟨x, y⟩ := t
  obtain ⟨p0, p1, p2⟩ := at_
  unfold Tn.val Pt.val at *
  dsimp only at *
  have W9 : decide ((n : Int) > 1000) = false := by simp; omega
  have W8 : decide (1000 < (n : Int)) = false := by simp; omega
  have E := ((Env.nil w).add (w.heap.size) 28 #[.int .i64 x, .int .i64 y] rfl).add (w.heap.size + 1) 24 #[.int .i64 p0, .int .i64 p1, .int .i64 p2] (by simp)
  have C := E.cells
  simp [BC, CF] at C
  go_enter Try.func83, Try.ntmps83
  go_wp2_with (first
    | (go_at_call 68; (with_reducible refine (h1 _).mono ?_); rintro X wq ⟨rfl, hb⟩; replace E := E.on hb; replace C := E.cells; simp [BC, CF] at C; clear hb)
    | (go_at_call 91; (with_reducible refine (f1 _).mono ?_); rintro X wq ⟨rfl, hb⟩; replace E := E.on hb; replace C := E.cells; simp [BC, CF] at C; clear hb)
    | (go_at_call 84; (with_reducible refine (hc _ (envb E)).mono ?_); rintro X wq ⟨rfl, hb⟩; replace E := E.on hb; replace C := E.cells; simp [BC, CF] at C; clear hb))
  go_loopw [8, 28] (fun v8 v28 wr => ∃ (k : Nat) (F : Value), v28 = .int .i64 k ∧ F = v8 ∧ k ≤ n ∧ Env w wr [⟨w.heap.size + 1, 24, #[.int .i64 p0, .int .i64 p1, .int .i64 p2]⟩, ⟨w.heap.size, 28, #[.int .i64 x, .int .i64 y]⟩] ∧ Own pc 24 3 (w.heap.size + 2) wr F (PS k)) (fun _ v _ => n - (intOf v).toNat)
  case atStart => exact ⟨0, _, rfl, rfl, Nat.zero_le _, E, by rw [H0.out]; exact own_nil _ _ _ _ _⟩
  case round =>
    clear E C
    obtain ⟨k, F, rfl, rfl, hk, E, hO⟩ := hrel
    by_cases hlt : k < n
    · have hkl : k < l.length := by rw [hn.out]; exact hlt
      have g1 : decide ((k : Int) < (n : Int)) = true := by simp [hlt]
      have W1 : IntKind.i64.wrap ((k : Int) + 1) = ((k + 1 : Nat) : Int) := by rw [IntWalk.i64_in _ (by omega)]; omega
      have q1 : (0 : Int) ≤ (k : Int) := by omega
      have q2 : (k : Int) < (n : Int) := by omega
      obtain ⟨a, rfl, c0, c1, c2⟩ := (HS.out.on E.1).at hkl
      have hm := List.getElem_mem hkl
      have hi := HI.out _ hm
      have hbd := HB.out _ hm
      have hp := Lib.hid (HP.out k hkl)
      have hol := HL2.out k (by rw [hn.out]; exact hk)
      generalize l[k] = el at *
      generalize im el = U at *
      obtain ⟨x0, x1, x2⟩ := el
      obtain ⟨u0, u1, u2⟩ := U
      have hs := fun g W hS => sum2_any ⟨u0, u1, u2⟩ ⟨p0, p1, p2⟩ hbd HA.out g W hS
      unfold Pt.val at hs
      simp only [ad] at hp hs
      dsimp only at *
      clear hm hbd
      generalize PS k = O at *
      have hsz := E.1.size
      have hs1 := E.lt 0 (by simp)
      simp only [numB] at hs1
      go_upto_region 11 with fail
      replace hO := own_on hO (al1 wr (.cells #[.int .i64 x0, .int .i64 x1, .int .i64 x2] 24))
      replace E := E.add wr.heap.size 24 #[.int .i64 x0, .int .i64 x1, .int .i64 x2] rfl
      clear c0 c1 c2
      refine wp_region_plan 8 [(0, true), (1, true), (2, true), (4, true), (3, false), (5, false), (6, false), (7, false)] (fun W' => Env w W' [⟨wr.heap.size, 24, #[.int .i64 x0, .int .i64 x1, .int .i64 x2]⟩, ⟨w.heap.size + 1, 24, #[.int .i64 p0, .int .i64 p1, .int .i64 p2]⟩, ⟨w.heap.size, 28, #[.int .i64 x, .int .i64 y]⟩] ∧ W'.cell? ⟨wr.heap.size, 0, none⟩ = some (.int .i64 x0) ∧ W'.cell? ⟨wr.heap.size, 1, none⟩ = some (.int .i64 x1) ∧ W'.cell? ⟨wr.heap.size, 2, none⟩ = some (.int .i64 x2) ∧ W'.cell? ⟨w.heap.size + 1, 0, none⟩ = some (.int .i64 p0) ∧ W'.cell? ⟨w.heap.size + 1, 1, none⟩ = some (.int .i64 p1) ∧ W'.cell? ⟨w.heap.size + 1, 2, none⟩ = some (.int .i64 p2) ∧ W'.cell? ⟨w.heap.size, 0, none⟩ = some (.int .i64 x) ∧ W'.cell? ⟨w.heap.size, 1, none⟩ = some (.int .i64 y)) (by kernel_rfl) (by kernel_rfl) (fun _ _ d _ _ h => by cases d <;> exact h) (s_pa E.drw) ?_
      simp only [List.filterMap_cons, List.filterMap_nil, List.getElem?_cons_zero, List.getElem?_cons_succ, Option.map_some, List.drop_succ_cons, List.drop_zero]
      replace E := E.drw
      replace hO := own_on hO (below_dr (Below.refl _ _))
      iterate 4 (first | (refine wpPlan_still (v := ?_) (Or.inl ⟨by rfl, ?_⟩) ?_; rotate_left; (focus (intro W hW; (try dsimp only at hW); go_split_ands; go_simp; try with_reducible rfl)); try simp only [Act.put, List.setIfInBounds_toArray, List.set_cons_zero, List.set_cons_succ]) | (refine wpPlan_still (Or.inr ⟨by rfl, rfl⟩) ?_; try simp only [Act.put, List.setIfInBounds_toArray, List.set_cons_zero, List.set_cons_succ]))
      refine wpPlan_only (fun K hK => ?_)
      try go_simp
      (go_at_call 93; (with_reducible refine (hi _).mono ?_); rintro X wq ⟨rfl, hb⟩)
      replace E := E.on hb
      replace hO := own_on hO hb
      clear hb
      refine hK.out _ _ (s_pa E) ?_
      clear hK K
      try simp only [Act.put, List.setIfInBounds_toArray, List.set_cons_zero, List.set_cons_succ]
      refine wpPlan_only (fun K hK => ?_)
      try go_simp
      have hSl := Sl.lit [⟨u0, u1, u2⟩, ⟨p0, p1, p2⟩] (Has.new_ wq 24 #[.int .i64 u0, .int .i64 u1, .int .i64 u2, .int .i64 p0, .int .i64 p1, .int .i64 p2]) rfl (show 2 ≤ maxLen by decide)
      replace E := E.more (.cells #[.int .i64 u0, .int .i64 u1, .int .i64 u2, .int .i64 p0, .int .i64 p1, .int .i64 p2] 24)
      replace hO := own_on hO (al1 wq (.cells #[.int .i64 u0, .int .i64 u1, .int .i64 u2, .int .i64 p0, .int .i64 p1, .int .i64 p2] 24))
      refine hK.out _ _ (s_pa E) ?_
      clear hK K
      try simp only [Act.put, List.setIfInBounds_toArray, List.set_cons_zero, List.set_cons_succ]
      refine wpPlan_only (fun K hK => ?_)
      try go_simp
      (go_at_call 92; (with_reducible refine (hs _ _ hSl).mono ?_); rintro X wq ⟨rfl, hb⟩)
      replace E := E.on hb
      replace hO := own_on hO hb
      clear hb hSl
      refine hK.out _ _ (s_pa E) ?_
      clear hK K
      try simp only [Act.put, List.setIfInBounds_toArray, List.set_cons_zero, List.set_cons_succ]
      refine wpPlan_only (fun K hK => ?_)
      try go_simp
      have hN := Has.new_ wq 24 #[.int .i64 (u0 + p0), .int .i64 (u1 + p1), .int .i64 (u2 + p2)]
      replace E := E.more (.cells #[.int .i64 (u0 + p0), .int .i64 (u1 + p1), .int .i64 (u2 + p2)] 24)
      replace hO := own_on hO (al1 wq (.cells #[.int .i64 (u0 + p0), .int .i64 (u1 + p1), .int .i64 (u2 + p2)] 24))
      refine hK.out _ _ (s_pa E) ?_
      clear hK K
      try simp only [Act.put, List.setIfInBounds_toArray, List.set_cons_zero, List.set_cons_succ]
      refine wpPlan_end ?_
      replace E := E.tail
      have hsz9 := E.lt 0 (by simp)
      simp [numB] at hsz9
      go_wp2_with go_loud (at_builtin; refine wpList_append_own_at _ rfl _ _ 81 rfl (w.heap.size + 2) 24 i0 _ 3 24 Try.underlying81 hinf hz0 hz1 hz2 rfl (by decide) _ O.length (O.flatMap pc) rfl hO ⟨_, 0, none⟩ 1 1 [.int .i64 (u0 + p0), .int .i64 (u1 + p1), .int .i64 (u2 + p2)] rfl rfl (World.news_of_block (cs := #[.int .i64 (u0 + p0), .int .i64 (u1 + p1), .int .i64 (u2 + p2)]) (t := 24) (fr := (0, 0)) hN) (by simp [Value.oneCell']) (by unfold maxLen; omega) (by omega) (by simp; omega) ?_)
      intro v' w6 p1_ p2_ p3_ p4_
      have O5 : Own pc 24 3 (w.heap.size + 2) w6 v' (O ++ [⟨u0 + p0, u1 + p1, u2 + p2⟩]) := own_snoc (by rw [hol]; exact p1_)
      have E5 := env_grown E p2_ (fun k hk => by
        have := (World.ownsRow.lt hO k hk).1
        intro y hy
        simp only [List.mem_cons, List.not_mem_nil, or_false] at hy
        rcases hy with rfl | rfl <;> (dsimp only; omega)) (fun k hk => by have := (World.ownsRow.lt hO k hk).1; omega)
      clear p1_ p2_ p3_ p4_ hO E
      try simp only [Act.put, List.setIfInBounds_toArray, List.set_cons_zero, List.set_cons_succ]
      go_wp2
      exact ⟨⟨k + 1, _, rfl, rfl, hlt, E5, by rw [hp.out]; exact O5⟩, by simp [intOf]; omega⟩
    · have hkn : k = n := by omega
      subst hkn
      have g1 : decide ((k : Int) < (k : Int)) = false := by simp
      go_wp2
      exact bodyPost_ret (v := .tuple #[F, .int .i64 0]) (by simp [results, Try.results83, go_sem]) rfl ⟨_, rfl, Own.mono hO (by omega), envb E⟩
set_option maxHeartbeats 8000000 in
set_option maxRecDepth 100000 in
theorem Path_arg (t : Tn) (at_ : Pt) (p : Option Addr) (l : List Pt) (cap : Nat) (w : World) (hS : Sl w p l) (ht : vT t = false) :
    Calls Try.prog 83 #[t.val, at_.val, .slice p l.length cap] w fun e w' => ∃ v, e = .returned (.tuple #[v, .int .i64 1]) ∧ Own pc 24 3 w.heap.size w' v [] ∧ Below w.heap.size w w' := by
  have h1 := fun W => valid_11 t W
  rw [ht] at h1
  clear ht hS
  generalize l.length = n at *
  obtain ⟨x, y⟩ := t
  obtain ⟨p0, p1, p2⟩ := at_
  unfold Tn.val Pt.val at *
  dsimp only at *
  have E := ((Env.nil w).add (w.heap.size) 28 #[.int .i64 x, .int .i64 y] rfl).add (w.heap.size + 1) 24 #[.int .i64 p0, .int .i64 p1, .int .i64 p2] (by simp)
  have C := E.cells
  simp [BC, CF] at C
  go_enter Try.func83, Try.ntmps83
  go_wp2_with (first
    | (go_at_call 68; (with_reducible refine (h1 _).mono ?_); rintro X wq ⟨rfl, hb⟩; replace E := E.on hb; replace C := E.cells; simp [BC, CF] at C; clear hb))
  exact bodyPost_ret (v := .tuple #[.slice none 0 0, .int .i64 1]) (by simp [results, Try.results83, go_sem]) rfl ⟨_, rfl, own_nil _ _ _ _ _, envb E⟩
set_option maxHeartbeats 8000000 in
set_option maxRecDepth 100000 in
theorem Path_full (t : Tn) (at_ : Pt) (p : Option Addr) (l : List Pt) (cap : Nat) (w : World) (hS : Sl w p l) (ht : vT t = true) (hl : 1000 < l.length) :
    Calls Try.prog 83 #[t.val, at_.val, .slice p l.length cap] w fun e w' => ∃ v, e = .returned (.tuple #[v, .int .i64 4]) ∧ Own pc 24 3 w.heap.size w' v [] ∧ Below w.heap.size w w' := by
  have h1 := fun W => valid_11 t W
  rw [ht] at h1
  have W9 : decide ((l.length : Int) > 1000) = true := by simp; omega
  have W8 : decide (1000 < (l.length : Int)) = true := by simp; omega
  clear ht hl hS
  generalize l.length = n at *
  obtain ⟨x, y⟩ := t
  obtain ⟨p0, p1, p2⟩ := at_
  unfold Tn.val Pt.val at *
  dsimp only at *
  have E := ((Env.nil w).add (w.heap.size) 28 #[.int .i64 x, .int .i64 y] rfl).add (w.heap.size + 1) 24 #[.int .i64 p0, .int .i64 p1, .int .i64 p2] (by simp)
  have C := E.cells
  simp [BC, CF] at C
  go_enter Try.func83, Try.ntmps83
  go_wp2_with (first
    | (go_at_call 68; (with_reducible refine (h1 _).mono ?_); rintro X wq ⟨rfl, hb⟩; replace E := E.on hb; replace C := E.cells; simp [BC, CF] at C; clear hb))
  exact bodyPost_ret (v := .tuple #[.slice none 0 0, .int .i64 4]) (by simp [results, Try.results83, go_sem]) rfl ⟨_, rfl, own_nil _ _ _ _ _, envb E⟩
set_option maxHeartbeats 8000000 in
set_option maxRecDepth 100000 in
theorem Path_far (t : Tn) (at_ : Pt) (p : Option Addr) (l : List Pt) (cap : Nat) (w : World) (hS : Sl w p l) (ht : vT t = true) (hl : l.length ≤ 1000) (hn : nearB at_ = false) :
    Calls Try.prog 83 #[t.val, at_.val, .slice p l.length cap] w fun e w' => ∃ v, e = .returned (.tuple #[v, .int .i64 2]) ∧ Own pc 24 3 w.heap.size w' v [] ∧ Below w.heap.size w w' := by
  have h1 := fun W => valid_11 t W
  have f1 := fun W => far_43 at_ W
  rw [ht] at h1
  rw [hn] at f1
  have W9 : decide ((l.length : Int) > 1000) = false := by simp; omega
  have W8 : decide (1000 < (l.length : Int)) = false := by simp; omega
  clear ht hl hn hS
  generalize l.length = n at *
  obtain ⟨x, y⟩ := t
  obtain ⟨p0, p1, p2⟩ := at_
  unfold Tn.val Pt.val at *
  dsimp only at *
  have E := ((Env.nil w).add (w.heap.size) 28 #[.int .i64 x, .int .i64 y] rfl).add (w.heap.size + 1) 24 #[.int .i64 p0, .int .i64 p1, .int .i64 p2] (by simp)
  have C := E.cells
  simp [BC, CF] at C
  go_enter Try.func83, Try.ntmps83
  go_wp2_with (first
    | (go_at_call 68; (with_reducible refine (h1 _).mono ?_); rintro X wq ⟨rfl, hb⟩; replace E := E.on hb; replace C := E.cells; simp [BC, CF] at C; clear hb)
    | (go_at_call 91; (with_reducible refine (f1 _).mono ?_); rintro X wq ⟨rfl, hb⟩; replace E := E.on hb; replace C := E.cells; simp [BC, CF] at C; clear hb))
  exact bodyPost_ret (v := .tuple #[.slice none 0 0, .int .i64 2]) (by simp [results, Try.results83, go_sem]) rfl ⟨_, rfl, own_nil _ _ _ _ _, envb E⟩
set_option maxHeartbeats 8000000 in
set_option maxRecDepth 100000 in
theorem Path_bad (t : Tn) (at_ : Pt) (p : Option Addr) (l : List Pt) (cap : Nat) (w : World) (hS : Sl w p l) (ht : vT t = true) (hl : l.length ≤ 1000) (hn : nearB at_ = true) (ha : l.all nearB = false) :
    Calls Try.prog 83 #[t.val, at_.val, .slice p l.length cap] w fun e w' => ∃ v, e = .returned (.tuple #[v, .int .i64 2]) ∧ Own pc 24 3 w.heap.size w' v [] ∧ Below w.heap.size w w' := by
  have h1 := fun W => valid_11 t W
  have f1 := fun W => far_43 at_ W
  have hc := fun W (h : Below w.heap.size w W) => con_43 p l cap W (hS.on h)
  rw [ht] at h1
  rw [hn] at f1
  rw [ha] at hc
  have W9 : decide ((l.length : Int) > 1000) = false := by simp; omega
  have W8 : decide (1000 < (l.length : Int)) = false := by simp; omega
  clear ht hl hn ha hS
  generalize l.length = n at *
  obtain ⟨x, y⟩ := t
  obtain ⟨p0, p1, p2⟩ := at_
  unfold Tn.val Pt.val at *
  dsimp only at *
  have E := ((Env.nil w).add (w.heap.size) 28 #[.int .i64 x, .int .i64 y] rfl).add (w.heap.size + 1) 24 #[.int .i64 p0, .int .i64 p1, .int .i64 p2] (by simp)
  have C := E.cells
  simp [BC, CF] at C
  go_enter Try.func83, Try.ntmps83
  go_wp2_with (first
    | (go_at_call 68; (with_reducible refine (h1 _).mono ?_); rintro X wq ⟨rfl, hb⟩; replace E := E.on hb; replace C := E.cells; simp [BC, CF] at C; clear hb)
    | (go_at_call 91; (with_reducible refine (f1 _).mono ?_); rintro X wq ⟨rfl, hb⟩; replace E := E.on hb; replace C := E.cells; simp [BC, CF] at C; clear hb)
    | (go_at_call 84; (with_reducible refine (hc _ (envb E)).mono ?_); rintro X wq ⟨rfl, hb⟩; replace E := E.on hb; replace C := E.cells; simp [BC, CF] at C; clear hb))
  exact bodyPost_ret (v := .tuple #[.slice none 0 0, .int .i64 2]) (by simp [results, Try.results83, go_sem]) rfl ⟨_, rfl, own_nil _ _ _ _ _, envb E⟩
end Go.Proofs.Ytfkcogocaecodaa.Fm
namespace Go.Proofs.Ytfkcogocaecodaa.Fm
open Go.ChangeShapes Go.WideShapes Go.Deep Go.ChangeAt Go.RowKit Go.Joins
set_option linter.unusedVariables false
set_option maxRecDepth 100000

theorem cells3 : Try.prog.cellsOf 3 = 1 := by kernel_rfl
theorem cells37 : Try.prog.cellsOf 24 = 3 := by kernel_rfl
theorem cells39 : Try.prog.cellsOf 54 = 6 := by kernel_rfl
def litD {H : Type} (a : Int) : DataW H := .lit (.int .i64 a)
def ptD {H : Type} (a b c : Int) : DataW H := .agg [litD a, litD b, litD c]
def wfI (n : Int) : Prop := (Lit.int .i64 n).wf = true
theorem point_open {H : Type} {enc : TypeId × Value → H} {w : World} {base : Nat} {sp : Nat → Bool} {held : Bool} {n : Nat} {v0 v1 v2 : Value} {y : DataW H × List MemPlace}
    (h : DataW.trod enc Try.prog w base sp held n 24 [v0, v1, v2] = some y) :
    ∃ a b c : Int, v0 = .int .i64 a ∧ v1 = .int .i64 b ∧ v2 = .int .i64 c ∧ y = (ptD a b c, []) ∧ wfI a ∧ wfI b ∧ wfI c := by
  obtain ⟨y0, y1, y2, m, rfl, -, h0, h1, h2⟩ := trod_struct3 Try.underlying24 h
  rw [cells3] at h0 h1 h2
  obtain ⟨a, e0, rfl, wa⟩ := DataW.trod_int Try.underlying3 h0
  obtain ⟨b, e1, rfl, wb⟩ := DataW.trod_int Try.underlying3 h1
  obtain ⟨c, e2, rfl, wc⟩ := DataW.trod_int Try.underlying3 h2
  simp at e0 e1 e2
  subst e0 e1 e2
  exact ⟨a, b, c, rfl, rfl, rfl, rfl, wa, wb, wc⟩
theorem point_shut {H : Type} {enc : TypeId × Value → H} (w : World) (base : Nat) (sp : Nat → Bool) (held : Bool) {a b c : Int} (wa : wfI a) (wb : wfI b) (wc : wfI c) :
    DataW.trod enc Try.prog w base sp held 2 24 [.int .i64 a, .int .i64 b, .int .i64 c] = some (ptD a b c, []) := by
  have k : ∀ {n : Int}, wfI n → DataW.trod enc Try.prog w base sp held 1 3 [.int .i64 n] = some (litD n, []) := fun {n} h => by
    unfold wfI at h; simp [DataW.trod, Try.underlying3, h, litD]
  exact trod_struct3_mk (n := 1) (y0 := (litD a, [])) (y1 := (litD b, [])) (y2 := (litD c, [])) Try.underlying24 (by rw [cells37]; rfl)
    (by rw [cells3]; exact k wa) (by rw [cells3]; exact k wb) (by rw [cells3]; exact k wc)
theorem cells23 : Try.prog.cellsOf 28 = 2 := by kernel_rfl
def tnD {H : Type} (x y : Int) : DataW H := .agg [litD x, litD y]
theorem turn_open {H : Type} {enc : TypeId × Value → H} {w : World} {base : Nat} {sp : Nat → Bool} {held : Bool} {r : Reach} {b0 : Nat} {v : Value} {d : DataW H} {p : List MemPlace}
    (hv : Value.okWide Try.prog w r b0 28 v) (h : DataW.Trod enc Try.prog w base sp held 28 v d p) :
    ∃ t : Tn, v = t.val ∧ d = tnD t.x t.y ∧ p = [] ∧ wfI t.x ∧ wfI t.y := by
  obtain ⟨cs, rfl, hsz⟩ := okWide_struct Try.underlying28 hv
  obtain ⟨l⟩ := cs
  match l, hsz.trans cells23 with
  | [v0, v1], _ =>
    obtain ⟨fuel, hf⟩ := h
    simp only [Value.cells] at hf
    obtain ⟨y0, y1, m, e, -, h0, h1⟩ := trod_struct2 Try.underlying28 hf
    rw [cells3] at h0 h1
    obtain ⟨a, e0, rfl, wa⟩ := DataW.trod_int Try.underlying3 h0
    obtain ⟨b, e1, rfl, wb⟩ := DataW.trod_int Try.underlying3 h1
    simp at e0 e1
    subst e0 e1
    simp only [Prod.mk.injEq] at e
    exact ⟨⟨a, b⟩, rfl, e.1, e.2, wa, wb⟩
theorem turn_shut {H : Type} {enc : TypeId × Value → H} (w : World) (base : Nat) (sp : Nat → Bool) (held : Bool) {t : Tn} (wa : wfI t.x) (wb : wfI t.y) :
    DataW.Trod enc Try.prog w base sp held 28 t.val (tnD t.x t.y) [] := by
  have k : ∀ {n : Int}, wfI n → DataW.trod enc Try.prog w base sp held 1 3 [.int .i64 n] = some (litD n, []) := fun {n} h => by
    unfold wfI at h; simp [DataW.trod, Try.underlying3, h, litD]
  have ts := trod_struct2_mk (enc := enc) (w := w) (base := base) (spare := sp) (held := held) (n := 1) (cs := [.int .i64 t.x, .int .i64 t.y]) (y0 := (litD t.x, [])) (y1 := (litD t.y, [])) Try.underlying28 (by rw [cells23]; rfl)
    (by rw [cells3]; exact k wa) (by rw [cells3]; exact k wb)
  exact ⟨2, by simpa [Value.cells, Tn.val, tnD] using ts⟩
theorem pt_open {H : Type} {enc : TypeId × Value → H} {w : World} {base : Nat} {sp : Nat → Bool} {held : Bool} {r : Reach} {b0 : Nat} {v : Value} {d : DataW H} {p : List MemPlace}
    (hv : Value.okWide Try.prog w r b0 24 v) (h : DataW.Trod enc Try.prog w base sp held 24 v d p) :
    ∃ t : Pt, v = t.val ∧ d = ptD t.x t.y t.z ∧ p = [] ∧ wfI t.x ∧ wfI t.y ∧ wfI t.z := by
  obtain ⟨cs, rfl, hsz⟩ := okWide_struct Try.underlying24 hv
  obtain ⟨l⟩ := cs
  match l, hsz.trans cells37 with
  | [v0, v1, v2], _ =>
    obtain ⟨fuel, hf⟩ := h
    simp only [Value.cells] at hf
    obtain ⟨a, b, c, rfl, rfl, rfl, e, wa, wb, wc⟩ := point_open hf
    simp only [Prod.mk.injEq] at e
    exact ⟨⟨a, b, c⟩, rfl, e.1, e.2, wa, wb, wc⟩
theorem pt_shut {H : Type} {enc : TypeId × Value → H} (w : World) (base : Nat) (sp : Nat → Bool) (held : Bool) {t : Pt} (wa : wfI t.x) (wb : wfI t.y) (wc : wfI t.z) :
    DataW.Trod enc Try.prog w base sp held 24 t.val (ptD t.x t.y t.z) [] := ⟨2, by simpa [Value.cells, Pt.val] using point_shut w base sp held wa wb wc⟩
end Go.Proofs.Ytfkcogocaecodaa.Fm
