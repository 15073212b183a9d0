/- Clone of boxes; which box of a list holds a point. -/
import Derived.Test.YtffigpkkdljaiaaFl0
import Derived.Test.YtffigpkkdljaiaaWi0
import Derived.Test.YtffigpkkdljaiaaWi1
import Derived.Test.YtffigpkkdljaiaaAl
namespace Go.Proofs.Ytffigpkkdljaiaa
open Go.ChangeShapes Go.WideShapes Go.ChangeAt Go.RowKit
set_option linter.unusedVariables false
set_option linter.unusedSimpArgs false

def cb (x : Bx) : List Value := [.int .i64 x.a, .int .i64 x.b, .int .i64 x.c, .int .i64 x.d, .int .i64 x.e, .int .i64 x.f]
theorem bl (x : Bx) : (cb x).length = 6 := rfl
theorem cb_one (l : List Bx) : ∀ u ∈ l.flatMap cb, u.oneCell' = true := by
  intro u hu
  obtain ⟨x, -, hx⟩ := List.mem_flatMap.1 hu
  simp [cb] at hx
  rcases hx with rfl | rfl | rfl | rfl | rfl | rfl <;> rfl
theorem info25 : (Try.prog.info? 25).map (fun i => (i.zero, i.size, i.bytes)) = some (some (.agg #[.int .i64 0, .int .i64 0, .int .i64 0, .int .i64 0, .int .i64 0, .int .i64 0]), 6, 48) := by kernel_rfl
theorem add_pos (a : Addr) {j : Nat} (h : 0 < j) : (⟨a.block, a.off + j, none⟩ : Addr) = a.add j := by rw [Addr.add.eq_1 a j, if_neg (by omega)]
theorem fr_news {w : World} {a : Addr} {l : List Bx} (h : Fr6 w a l) : ∀ j u, (l.flatMap cb)[j]? = some u → w.cell? (a.add j) = some u := by
  intro j u hj
  have hl := (List.getElem?_eq_some_iff.1 hj).1
  rw [flat_len cb 6 bl] at hl
  have hi : j / 6 < l.length := by omega
  have e := flat_at cb 6 bl l (j / 6) hi (j % 6) (Nat.mod_lt _ (by omega))
  have ej : j / 6 * 6 + j % 6 = j := by omega
  rw [ej, hj] at e
  obtain ⟨h0, h1, h2, h3, h4, h5⟩ := h (j / 6) hi
  have key : ∀ r, 0 < r → a.add (j / 6 * 6 + r) = ⟨(a.add (j / 6 * 6)).block, (a.add (j / 6 * 6)).off + r, none⟩ := fun r hr => by
    rw [add_pos _ hr, Go.Deep.add_add]
  rw [← ej]
  rcases (by omega : j % 6 = 0 ∨ j % 6 = 1 ∨ j % 6 = 2 ∨ j % 6 = 3 ∨ j % 6 = 4 ∨ j % 6 = 5) with k | k | k | k | k | k
  · rw [k] at e ⊢; rw [Nat.add_zero, h0, e]; rfl
  · rw [k] at e ⊢; rw [key 1 (by omega), h1, e]; rfl
  · rw [k] at e ⊢; rw [key 2 (by omega), h2, e]; rfl
  · rw [k] at e ⊢; rw [key 3 (by omega), h3, e]; rfl
  · rw [k] at e ⊢; rw [key 4 (by omega), h4, e]; rfl
  · rw [k] at e ⊢; rw [key 5 (by omega), h5, e]; rfl
theorem own_sl {B : Nat} {w : World} {v : Value} {l : List Bx} (h : Own cb 25 6 B w v l) (hl : l.length ≤ 1000) : ∃ q c, v = .slice q l.length c ∧ Sl w q l := by
  obtain ⟨q, c, rfl, hC⟩ := Own.rd bl h
  refine ⟨q, c, rfl, ?_, ?_, by unfold maxLen; omega⟩
  · intro e
    rcases l with _ | ⟨x, l⟩
    · rfl
    · obtain ⟨g, e2, -⟩ := hC 0 (by simp); rw [e] at e2; cases e2
  · intro a e i hi
    obtain ⟨g, e2, hc⟩ := hC i hi
    rw [e] at e2
    cases e2
    have ad : (⟨g, 0, none⟩ : Addr).add (i * 6) = ⟨g, i * 6, none⟩ := by unfold Addr.add; split <;> simp_all
    rw [ad]
    exact ⟨hc 0 (by omega), hc 1 (by omega), hc 2 (by omega), hc 3 (by omega), hc 4 (by omega), hc 5 (by omega)⟩
set_option maxRecDepth 100000 in
theorem clone_any (p : Option Addr) (l : List Bx) (cap : Nat) (w : World) (hS : Sl w p l) (hl : l.length ≤ 40) :
    Calls Try.prog 36 #[.slice p l.length cap] w fun e w' => ∃ v, e = .returned v ∧ Own cb 25 6 w.heap.size w' v l ∧ Below w.heap.size w w' := by
  obtain ⟨i0, hi, hz0, hz1, hz2⟩ := info_parts info25
  have q40 : ∀ (w : World) (a : Option Addr) (n c n' c' : Nat), (binOp .eql 40 (.slice a n c) (.slice none n' c')).run Try.prog w = .ok (.bool a.isNone) w := fun w a n c n' c' => Lib.run_eql_slice_nil w _ _ a n c n' c' Try.underlying40
  cases p with
  | none =>
    have e := hS.1 rfl
    subst e
    go_enter Try.func36, Try.ntmps36
    go_wp2
    go_ret
    exact ⟨_, rfl, World.ownsRow_nil _ _ _ _, Below.refl _ _⟩
  | some a =>
    have HN := Lib.hid (fr_news ((hS.2.1 a rfl).on (al1 w (.cells #[] 25))))
    have HL := Lib.hid (flat_len cb 6 bl l)
    clear hS
    go_enter Try.func36, Try.ntmps36
    go_wp2_with (at_builtin; refine wpList_append_own_at _ rfl _ _ 40 rfl w.heap.size 25 i0 _ 6 48 Try.underlying40 hi hz0 hz1 hz2 rfl (by decide) _ 0 [] rfl (World.ownsRow_made w #[] 0 (Nat.le_refl _) (Nat.zero_le _) rfl) a l.length cap (l.flatMap cb) rfl HL.out HN.out (cb_one l) (by unfold maxLen; omega) (by omega) (by simp) ?_)
    intro v' w2 o1 o2 o3 o4
    have b2 : Below w.heap.size w w2 := ((Below.refl _ w).alloc (Nat.le_refl _) _).grown o2 (by simp) (by intro k hk; simp [Value.ownBlock] at hk; omega)
    have O1 := Lib.hid o1
    clear o1 o2 o3 o4
    go_wp2
    go_ret
    refine ⟨_, rfl, ?_, b2⟩
    have := O1.out
    simpa [Own] using this
def hasP (p q r : Int) (x : Bx) : Bool := conB x (ptB p q r)
def Sf (x : Bx) (p q r : Int) (g : Nat) (w W' : World) : Prop := Env w W' [⟨w.heap.size, 25, #[.int .i64 x.a, .int .i64 x.b, .int .i64 x.c, .int .i64 x.d, .int .i64 x.e, .int .i64 x.f]⟩] ∧ Has W' g 23 #[.int .i64 p, .int .i64 q, .int .i64 r]
theorem Sf.on {x : Bx} {p q r : Int} {g : Nat} {w W W' : World} (h : Sf x p q r g w W) (hb : Below W.heap.size W W') : Sf x p q r g w W' := ⟨h.1.on hb, h.2.on hb⟩
theorem Sf.drw {x : Bx} {p q r : Int} {g : Nat} {w W : World} (h : Sf x p q r g w W) : Sf x p q r g w W.drew := h.on (Below.drew (Below.refl _ _))
theorem cells_f {x : Bx} {p q r : Int} {g : Nat} {w W' : World} (h : Sf x p q r g w W') : W'.cell? ⟨w.heap.size, 0, none⟩ = some (.int .i64 x.a) ∧ W'.cell? ⟨w.heap.size, 1, none⟩ = some (.int .i64 x.b) ∧ W'.cell? ⟨w.heap.size, 2, none⟩ = some (.int .i64 x.c) ∧ W'.cell? ⟨w.heap.size, 3, none⟩ = some (.int .i64 x.d) ∧ W'.cell? ⟨w.heap.size, 4, none⟩ = some (.int .i64 x.e) ∧ W'.cell? ⟨w.heap.size, 5, none⟩ = some (.int .i64 x.f) ∧ W'.cell? ⟨g, 0, none⟩ = some (.int .i64 p) ∧ W'.cell? ⟨g, 1, none⟩ = some (.int .i64 q) ∧ W'.cell? ⟨g, 2, none⟩ = some (.int .i64 r) ∧ Sf x p q r g w W' := by
  have C := h.1.cells
  simp [BC, CF] at C
  have r0 : W'.cell? ⟨g, 0, none⟩ = some (.int .i64 p) := h.2.read 0
  have r1 : W'.cell? ⟨g, 1, none⟩ = some (.int .i64 q) := h.2.read 1
  have r2 : W'.cell? ⟨g, 2, none⟩ = some (.int .i64 r) := h.2.read 2
  simp [C, r0, r1, r2, h]
set_option maxHeartbeats 4000000 in
set_option maxRecDepth 100000 in
theorem clo35 (x : Bx) (p q r : Int) (g : Nat) (w : World) (hx : x.ok = true) (hp : (ptB p q r).ok = true) (hg : Has w g 23 #[.int .i64 p, .int .i64 q, .int .i64 r]) :
    Calls Try.prog 35 #[x.val, .pointer (some ⟨g, 0, none⟩)] w fun e w' => e = .returned (.bool (hasP p q r x)) ∧ Below w.heap.size w w' := by
  have E : Sf x p q r g w (w.alloc (.cells #[.int .i64 x.a, .int .i64 x.b, .int .i64 x.c, .int .i64 x.d, .int .i64 x.e, .int .i64 x.f] 25)) := ⟨(Env.nil w).add w.heap.size 25 #[.int .i64 x.a, .int .i64 x.b, .int .i64 x.c, .int .i64 x.d, .int .i64 x.e, .int .i64 x.f] rfl, hg.on (al1 w _)⟩
  have h23 := fun W => point_any p q r W
  have h20 := fun W => Con_ok x (ptB p q r) W hx hp
  unfold hasP
  generalize conB x (ptB p q r) = B at *
  unfold ptB Bx.val ptv at *
  go_enter Try.func35, Try.ntmps35
  go_upto_region 1 with fail
  generalize w.alloc (.cells #[.int .i64 x.a, .int .i64 x.b, .int .i64 x.c, .int .i64 x.d, .int .i64 x.e, .int .i64 x.f] 25) = V at *
  have C := cells_f E
  go_region_held3 (fun W' => W'.cell? ⟨w.heap.size, 0, none⟩ = some (.int .i64 x.a) ∧ W'.cell? ⟨w.heap.size, 1, none⟩ = some (.int .i64 x.b) ∧ W'.cell? ⟨w.heap.size, 2, none⟩ = some (.int .i64 x.c) ∧ W'.cell? ⟨w.heap.size, 3, none⟩ = some (.int .i64 x.d) ∧ W'.cell? ⟨w.heap.size, 4, none⟩ = some (.int .i64 x.e) ∧ W'.cell? ⟨w.heap.size, 5, none⟩ = some (.int .i64 x.f) ∧ W'.cell? ⟨g, 0, none⟩ = some (.int .i64 p) ∧ W'.cell? ⟨g, 1, none⟩ = some (.int .i64 q) ∧ W'.cell? ⟨g, 2, none⟩ = some (.int .i64 r) ∧ Sf x p q r g w W') (first | exact cells_f (by go_split_ands; assumption) | exact cells_f E | exact cells_f E.drw) ((first | (go_at_call 23; (with_reducible refine (h23 _).mono ?_); rintro X w1 ⟨rfl, hb⟩; (first | have E := E.drw.on hb | have E := E.on hb); clear hb) | (go_at_call 20; (with_reducible refine (h20 _).mono ?_); rintro X w1 ⟨rfl, hb⟩; (first | have E := E.drw.on hb | have E := E.on hb); clear hb)))
  all_goals cases B
  all_goals go_wp2
  all_goals go_ret
  all_goals exact ⟨rfl, E.1.1⟩
set_option maxRecDepth 100000 in
theorem idx35 (u : Option Addr) (l : List Bx) (cap : Nat) (p q r : Int) (g : Nat) (w : World) (hS : Sl w u l) (hl : l.all Bx.ok = true) (hp : (ptB p q r).ok = true) (hg : Has w g 23 #[.int .i64 p, .int .i64 q, .int .i64 r]) :
    Calls Try.prog 59 #[.slice u l.length cap, .func (.func 35) #[] #[.pointer (some ⟨g, 0, none⟩)]] w fun e w' => ∃ i : Int, e = .returned (.int .i64 i) ∧ decide (0 ≤ i) = l.any (hasP p q r) ∧ Below w.heap.size w w' := by
  have hm := hS.2.2
  unfold maxLen at hm
  go_enter Try.func59, Try.ntmps59
  go_wp2
  go_loopw [8] (fun v wr => ∃ k : Nat, v = .int .i64 k ∧ k ≤ l.length ∧ Hid (∀ x ∈ l.take k, hasP p q r x = false) ∧ Below w.heap.size w wr) (fun v _ => l.length - (intOf v).toNat)
  case atStart => exact ⟨0, rfl, Nat.zero_le _, Lib.hid (by simp), Below.refl _ _⟩
  case round =>
    obtain ⟨k, rfl, hk, hG, hB⟩ := hrel
    by_cases hlt : k < l.length
    · have g1 : decide ((k : Int) < (l.length : Int)) = true := by simp [hlt]
      obtain ⟨a, rfl, c0, c1, c2, c3, c4, c5⟩ := (hS.on hB).at hlt
      have W1 : IntKind.i64.wrap ((k : Int) + 1) = ((k + 1 : Nat) : Int) := by rw [IntWalk.i64_in _ (by omega)]; omega
      have hb := fun w h => clo35 l[k] p q r g w (List.all_eq_true.1 hl _ (List.getElem_mem hlt)) hp h
      have hg2 := hg.on hB
      unfold Bx.val at hb
      cases hv : hasP p q r l[k]
      · simp only [hv] at hb
        go_wp2_with (go_at_call 35; (with_reducible refine (hb _ hg2).mono ?_); rintro e1 w1 ⟨rfl, hb1⟩)
        refine ⟨⟨k + 1, rfl, hlt, Lib.hid (fun x hx => ?_), belows hB hb1⟩, by simp [intOf]; omega⟩
        rw [List.take_succ_eq_append_getElem hlt, List.mem_append] at hx
        rcases hx with hx | hx
        · exact hG.out x hx
        · rw [List.mem_singleton.1 hx]; exact hv
      · have e : l.any (hasP p q r) = true := List.any_eq_true.2 ⟨_, List.getElem_mem hlt, hv⟩
        simp only [hv] at hb
        go_wp2_with (go_at_call 35; (with_reducible refine (hb _ hg2).mono ?_); rintro e1 w1 ⟨rfl, hb1⟩)
        go_ret
        exact ⟨_, rfl, by rw [e]; simp, belows hB hb1⟩
    · have g1 : decide ((k : Int) < (l.length : Int)) = false := by simp; omega
      go_wp2
      go_ret
      have := hG.out
      rw [List.take_of_length_le (by omega)] at this
      have e : l.any (hasP p q r) = false := List.any_eq_false.2 fun x hx => by simp [this x hx]
      exact ⟨-1, rfl, by rw [e]; rfl, hB⟩
theorem has35 (u : Option Addr) (l : List Bx) (cap : Nat) (p q r : Int) (g : Nat) (w : World) (hS : Sl w u l) (hl : l.all Bx.ok = true) (hp : (ptB p q r).ok = true) (hg : Has w g 23 #[.int .i64 p, .int .i64 q, .int .i64 r]) :
    Calls Try.prog 34 #[.slice u l.length cap, .func (.func 35) #[] #[.pointer (some ⟨g, 0, none⟩)]] w fun e w' => e = .returned (.bool (l.any (hasP p q r))) ∧ Below w.heap.size w w' := by
  go_enter Try.func34, Try.ntmps34
  go_wp2_with (go_at_call 59; (with_reducible refine (idx35 u l cap p q r g _ hS hl hp hg).mono ?_); rintro e1 w1 ⟨i, rfl, hi, hb1⟩)
  go_ret
  exact ⟨rfl, hb1⟩
end Go.Proofs.Ytffigpkkdljaiaa
