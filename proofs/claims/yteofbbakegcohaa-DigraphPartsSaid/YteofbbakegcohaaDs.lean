/- How far the nodes are from one: distances. -/
import Derived.Test.YteofbbakegcohaaTa
import Derived.ArgAppend
import Derived.Deep.LoopGhost
namespace Go.Proofs.Yteofbbakegcohaa
open Go.ChangeShapes Go.WideShapes Go.ChangeAt Go.RowKit
set_option linter.unusedVariables false
set_option linter.unusedSimpArgs false

structure QuAt (B : Nat) (w : World) (g off cap : Nat) (cur : Array Value) (qs : List Nat) : Prop where
  b : B ≤ g
  h : Has w g 3 cur
  s : off + cap ≤ cur.size
  c : ∀ (j x : Nat), qs[j]? = some x → cur[off + j]? = some (.int .i64 (x : Int))
  l : qs.length ≤ cap
  m : cap ≤ maxLen
def Qu (B : Nat) (w : World) (v : Value) (qs : List Nat) : Prop := ∃ g off cap cur, v = .slice (some ⟨g, off, none⟩) qs.length cap ∧ QuAt B w g off cap cur qs
theorem Qu.on {B : Nat} {w w1 : World} {v : Value} {qs : List Nat} (h : Qu B w v qs) (hb : Below w.heap.size w w1) : Qu B w1 v qs := by
  obtain ⟨g, off, cap, cur, e, q⟩ := h
  exact ⟨g, off, cap, cur, e, q.b, Has.on q.h hb, q.s, q.c, q.l, q.m⟩
theorem Qu.at_ {B D : Nat} {w w1 : World} {v : Value} {qs : List Nat} (h : Qu B w v qs) (hb : At D w w1) (hD : D < B) : Qu B w1 v qs := by
  obtain ⟨g, off, cap, cur, e, q⟩ := h
  exact ⟨g, off, cap, cur, e, q.b, Has.at_ q.h hb (by have := q.b; omega), q.s, q.c, q.l, q.m⟩
theorem Qu.head {B : Nat} {w : World} {v : Value} {x : Nat} {qs : List Nat} (h : Qu B w v (x :: qs)) : ∃ g off cap, v = .slice (some ⟨g, off, none⟩) (x :: qs).length cap ∧ w.cell? ⟨g, off, none⟩ = some (.int .i64 (x : Int)) ∧ (x :: qs).length ≤ cap := by
  obtain ⟨g, off, cap, cur, e, q⟩ := h
  refine ⟨g, off, cap, e, ?_, q.l⟩
  have := q.c 0 x rfl
  rw [Has.read q.h]; simpa using this
theorem Qu.pop {B : Nat} {w : World} {g off cap x : Nat} {qs : List Nat} (h : Qu B w (.slice (some ⟨g, off, none⟩) (x :: qs).length cap) (x :: qs)) (a : Option Addr) (ha : a = if cap = 1 then some ⟨g, off, none⟩ else some ⟨g, off + 1, none⟩) : Qu B w (.slice a qs.length (cap - 1)) qs := by
  obtain ⟨g', off', cap', cur, e, q⟩ := h
  simp only [Value.slice.injEq, Option.some.injEq, Addr.mk.injEq, and_true, true_and] at e
  obtain ⟨⟨rfl, rfl⟩, rfl⟩ := e
  have hl := q.l
  simp at hl
  have hm := q.m
  by_cases h1 : cap = 1
  · rw [if_pos h1] at ha
    subst ha h1
    have : qs = [] := List.eq_nil_of_length_eq_zero (by omega)
    subst this
    exact ⟨g, off, 0, cur, rfl, q.b, q.h, by have := q.s; omega, (fun j x h => by cases h), Nat.le_refl _, by omega⟩
  · rw [if_neg h1] at ha
    subst ha
    refine ⟨g, off + 1, cap - 1, cur, rfl, q.b, q.h, by have := q.s; omega, fun j y hj => ?_, by omega, by omega⟩
    have := q.c (j + 1) y (by simpa using hj)
    rw [show off + 1 + j = off + (j + 1) by omega]; exact this
theorem Qu.one (B : Nat) (w : World) (x : Nat) (hB : B ≤ w.heap.size) : Qu B (w.alloc (.cells #[.int .i64 (x : Int)] 3)) (.slice (some ⟨w.heap.size, 0, none⟩) 1 1) [x] :=
  ⟨w.heap.size, 0, 1, _, rfl, hB, Has.new_ _ _ _, by simp, fun j y h => by
    cases j with
    | zero => simp at h; subst h; rfl
    | succ j => simp at h, by simp, by unfold maxLen; omega⟩
theorem wpList_queue {ops : Array Oper} {rest : List Oper} {o : Oper} {a : Act} {Q : Exit → Act → World → Prop} {B x : Nat} {w : World} {v : Value} {qs : List Nat} (hgd : o.guard = none) (s y : Operand)
    (ho : o.op = .call { callee := .builtin .append, args := #[s, y], argTypes := #[23, 23] }) (hs : a.eval s = v) (hq : Qu B w v qs) (ad : Addr) (c : Nat) (hy : a.eval y = .slice (some ad) 1 c) (hx : w.cell? ad = some (.int .i64 (x : Int)))
    (hl : qs.length ≤ 100000) (hB : B ≤ w.heap.size) (h : ∀ v' w', Qu B w' v' (qs ++ [x]) → Below B w w' → wpList Try.prog ops Q rest (a.put o.dst v') w') : wpList Try.prog ops Q (o :: rest) a w := by
  obtain ⟨i0, hi, hz0, hz1, hz2⟩ := info_parts info3
  obtain ⟨g, off, cap, cur, rfl, q⟩ := hq
  have hnew : ∀ j u, [Value.int .i64 (x : Int)][j]? = some u → w.cell? (ad.add j) = some u := fun j u hj => by
    cases j with
    | zero => simp at hj; subst hj; simpa [Addr.add] using hx
    | succ j => simp at hj
  refine wpList_append_arg w hgd s y 23 ho 3 i0 _ 1 8 Try.underlying23 hi hz0 hz1 hz2 rfl (by decide) g off qs.length cap (ints qs) hs (by simp [ints]) (fun j u hj => ?_) ad 1 c [.int .i64 (x : Int)] hy rfl hnew (by simp [Value.oneCell']) (fun hr j hj => ?_) (by unfold maxLen; omega) (by omega) (fun hr => ?_) (fun hr v' w' o1 o2 => ?_)
  · have hj2 := (List.getElem?_eq_some_iff.1 hj).1
    simp [ints] at hj2
    rw [Has.read q.h, q.c j _ (List.getElem?_eq_getElem hj2)]
    rw [List.getElem?_eq_getElem (by simpa [ints] using hj2)] at hj
    simp [ints] at hj
    rw [hj]
  · simp at hj
    subst hj
    have hs := q.s
    refine ⟨?_, Has.open_ q.h _⟩
    rw [Has.read q.h]
    rw [Array.getElem?_eq_getElem (by omega)]
    rfl
  · refine h _ _ ?_ ((Below.refl B w).setCell q.b _)
    have hs := q.s
    refine ⟨g, off, cap, _, by simp, q.b, Has.put_ q.h (off + qs.length * 1) _, by simpa using hs, fun j z hj => ?_, by simpa using hr, q.m⟩
    by_cases e : j < qs.length
    · rw [List.getElem?_append_left e] at hj
      rw [Array.getElem?_setIfInBounds_ne (by omega)]
      exact q.c j z hj
    · rw [List.getElem?_append_right (by omega)] at hj
      have hj0 : j - qs.length = 0 := by
        have := (List.getElem?_eq_some_iff.1 hj).1
        simp at this; omega
      rw [hj0] at hj
      simp at hj
      subst hj
      rw [show off + j = off + qs.length * 1 by omega, Array.getElem?_setIfInBounds_self_of_lt (by omega)]
  · obtain ⟨hln, ⟨-, h0⟩ | ⟨g', cap', cur', rfl, hg', hc', hnc, hcm, hcs, ht⟩⟩ := o1
    · omega
    · refine h _ _ ⟨g', 0, cap', cur', by simp, Nat.le_trans hB hg', hc', by omega, fun j z hj => ?_, by simpa using hnc, hcm⟩ ((Below.refl B w).grown o2 hB (fun k hk => by cases hk))
      have hj2 := (List.getElem?_eq_some_iff.1 hj).1
      simp at hj2
      have e : (ints qs ++ [Value.int .i64 (x : Int)]) = ints (qs ++ [x]) := by rw [ints_app]; rfl
      rw [e] at ht
      have e2 : (ints (qs ++ [x]))[j]? = some (.int .i64 (z : Int)) := by
        simp only [ints, List.getElem?_map, hj, Option.map_some]
      rw [← ht, List.getElem?_take_of_lt (by omega)] at e2
      rw [Nat.zero_add]
      simpa using e2

def bst (A : Nat → List Nat) (n q : Nat) (acc : (Nat → Nat) × List Nat) (v : Nat) : (Nat → Nat) × List Nat := if acc.1 v = n ∧ q ∈ A v then (upd acc.1 v (acc.1 q + 1), acc.2 ++ [v]) else acc
def bfs (A : Nat → List Nat) (n : Nat) : Nat → (Nat → Nat) → List Nat → (Nat → Nat)
  | 0, f, _ => f
  | _ + 1, f, [] => f
  | k + 1, f, q :: t => bfs A n k ((List.range n).foldl (bst A n q) (f, t)).1 ((List.range n).foldl (bst A n q) (f, t)).2
def ust (n : Nat) (f : Nat → Nat) : Nat := zc (fun v => if f v = n then 0 else 1) n
def dst (A : Nat → List Nat) (n last : Nat) : Nat → Nat := bfs A n n (upd (fun _ => n) last 0) [last]
structure Bq (n : Nat) (f : Nat → Nat) (qs : List Nat) : Prop where
  b : ∀ v, f v ≠ n → f v + ust n f + 1 ≤ n
  q : ∀ q ∈ qs, q < n ∧ f q ≠ n
theorem ust_le (n : Nat) (f : Nat → Nat) : ust n f ≤ n := zc_le _ n
theorem ust_upd {n v x : Nat} {f : Nat → Nat} (hv : v < n) (h0 : f v = n) (hx : x ≠ n) : ust n (upd f v x) + 1 = ust n f := by
  unfold ust
  have h := zc_upd (fun v => if f v = n then 0 else 1) v 1 (by simp [h0]) (by omega) n hv
  rw [← h]
  congr 2
  funext u
  unfold upd
  by_cases e : u = v
  · simp [e, hx]
  · simp [e]
theorem ust_pos {n v : Nat} {f : Nat → Nat} (hv : v < n) (h0 : f v = n) : 0 < ust n f := zc_pos (by simp [h0]) n hv
theorem bst_inv {A : Nat → List Nat} {n q v : Nat} {f : Nat → Nat} {t : List Nat} (h : Bq n f (q :: t)) (hv : v < n) :
    Bq n (bst A n q (f, t) v).1 (q :: (bst A n q (f, t) v).2) ∧ ust n (bst A n q (f, t) v).1 + (bst A n q (f, t) v).2.length = ust n f + t.length := by
  unfold bst
  by_cases hc : f v = n ∧ q ∈ A v
  · rw [if_pos hc]
    have hq := (h.q q (by simp)).2
    have hb := h.b q hq
    have hp := ust_pos hv hc.1
    have hu := ust_upd (x := f q + 1) hv hc.1 (by omega)
    simp only
    refine ⟨⟨fun u hu2 => ?_, fun x hx => ?_⟩, by rw [List.length_append]; simp; omega⟩
    · unfold upd at hu2
      by_cases e : u = v
      · subst e; rw [upd_same]; omega
      · rw [if_neg e] at hu2
        rw [upd_other e]
        have := h.b u hu2
        omega
    · have k : x ∈ q :: t ∨ x = v := by
        rcases List.mem_cons.1 hx with e | e
        · exact .inl (by simp [e])
        · rcases List.mem_append.1 e with e | e
          · exact .inl (by simp [e])
          · exact .inr (List.mem_singleton.1 e)
      by_cases e : x = v
      · subst e; exact ⟨hv, by rw [upd_same]; omega⟩
      · rw [upd_other e]
        exact h.q x (k.resolve_right e)
  · rw [if_neg hc]
    exact ⟨h, rfl⟩
theorem bfold_inv {A : Nat → List Nat} {n q : Nat} : ∀ (xs : List Nat) (f : Nat → Nat) (t : List Nat), (∀ x ∈ xs, x < n) → Bq n f (q :: t) →
    Bq n (xs.foldl (bst A n q) (f, t)).1 (q :: (xs.foldl (bst A n q) (f, t)).2) ∧ ust n (xs.foldl (bst A n q) (f, t)).1 + (xs.foldl (bst A n q) (f, t)).2.length = ust n f + t.length
  | [], f, t, _, h => ⟨h, rfl⟩
  | x :: xs, f, t, hx, h => by
    rw [List.foldl_cons]
    obtain ⟨h1, h2⟩ := bst_inv (A := A) h (hx x (by simp))
    obtain ⟨k1, k2⟩ := bfold_inv (A := A) xs (bst A n q (f, t) x).1 (bst A n q (f, t) x).2 (fun y hy => hx y (by simp [hy])) h1
    exact ⟨k1, by rw [k2, h2]⟩
theorem Bq.start {n last : Nat} (hl : last < n) : Bq n (upd (fun _ => n) last 0) [last] ∧ ust n (upd (fun _ => n) last 0) + 1 = n := by
  have h1 : ust n (fun _ => n) = n := by
    unfold ust
    have : ∀ m, zc (fun v => if n = n then 0 else 1) m = m := by
      intro m
      induction m with
      | zero => rfl
      | succ m ih => rw [zc, ih]; simp
    simpa using this n
  have h2 := ust_upd (n := n) (v := last) (x := 0) (f := fun _ => n) hl rfl (by omega)
  refine ⟨⟨fun v hv => ?_, fun q hq => ?_⟩, by omega⟩
  · by_cases e : v = last
    · subst e; rw [upd_same]; omega
    · rw [upd_other e] at hv; exact absurd rfl hv
  · simp at hq; subst hq
    exact ⟨hl, by rw [upd_same]; omega⟩
theorem has_below {w w' : World} {B g : Nat} {t : TypeId} {cs : Array Value} (h : Has w g t cs) (hb : Below B w w') (hg : g < B) : Has w' g t cs := by
  unfold Has; rw [hb.block g hg]; exact h
theorem bst_no {A : Nat → List Nat} {n q v : Nat} {f : Nat → Nat} {t : List Nat} (h : ¬ (f v = n ∧ q ∈ A v)) : bst A n q (f, t) v = (f, t) := by unfold bst; rw [if_neg h]
theorem bst_yes {A : Nat → List Nat} {n q v : Nat} {f : Nat → Nat} {t : List Nat} (h : f v = n ∧ q ∈ A v) : bst A n q (f, t) v = (upd f v (f q + 1), t ++ [v]) := by unfold bst; rw [if_pos h]
theorem fold_range {β : Type} (g : β → Nat → β) (b : β) (k : Nat) : (List.range (k + 1)).foldl g b = g ((List.range k).foldl g b) k := by rw [List.range_succ, List.foldl_append]; rfl
set_option maxRecDepth 100000 in
set_option maxHeartbeats 8000000 in
theorem distances_any (G n last : Nat) (A : Nat → List Nat) (w : World) (hG : Gm w G n A) (hl : last < n) :
    Calls Try.prog 70 #[.slice (some ⟨G, 0, none⟩) n n, .int .i64 last] w fun e w' => ∃ R, e = .returned (.slice (some ⟨R, 0, none⟩) n n) ∧ w.heap.size ≤ R ∧ Row w' R n (fun v => ((dst A n last v : Nat) : Int)) ∧ Below w.heap.size w w' := by
  have hn := hG.sz
  have hlen := hG.len
  obtain ⟨B0, U0⟩ := Bq.start hl
  have CN := (Has.new_ w 3 #[.int .i64 (n : Int)]).read 0
  have a1 := al1 w (.cells #[.int .i64 (n : Int)] 3)
  have hr := repeat_ex (n : Int) w.heap.size n _ (by omega) CN
  obtain ⟨RES, hRES⟩ : ∃ r, r = dst A n last := ⟨_, rfl⟩
  rw [← hRES]
  have HRES : Hid (bfs A n n (upd (fun _ => n) last 0) [last] = RES) := Lib.hid hRES.symm
  have q1 : (0 : Int) ≤ (last : Int) := by omega
  have q2 : (last : Int) < (n : Int) := by omega
  clear hRES CN
  go_enter Try.func70, Try.ntmps70
  go_wp2_with (go_at_call 46; (with_reducible refine hr.mono ?_); rintro e w3 ⟨R, rfl, hR1, r3, b3⟩; have c3 := r3.read hl; have f3 := r3.open_ last)
  have b03 := belows a1 b3
  have hwR : w.heap.size ≤ R := by simp at hR1; omega
  have hRs := r3.size_
  obtain ⟨B, hB⟩ : ∃ B, B = w3.heap.size := ⟨_, rfl⟩
  have A4 : At R w3 (w3.setCell ⟨R, last, none⟩ (.int .i64 0)) := (At.refl _ _).put _ _
  have hRB : R < B := by omega
  have z4 : (w3.setCell ⟨R, last, none⟩ (.int .i64 0)).heap.size = w3.heap.size := A4.size
  have Q4 : Qu B ((w3.setCell ⟨R, last, none⟩ (.int .i64 0)).alloc (.cells #[.int .i64 (last : Int)] 3)) (.slice (some ⟨B, 0, none⟩) 1 1) [last] := by
    have := Qu.one B (w3.setCell ⟨R, last, none⟩ (.int .i64 0)) last (by rw [z4, hB]; exact Nat.le_refl _)
    rw [z4, ← hB] at this
    exact this
  have R4 : Row ((w3.setCell ⟨R, last, none⟩ (.int .i64 0)).alloc (.cells #[.int .i64 (last : Int)] 3)) R n (fun v => (((upd (fun _ => n) last 0) v : Nat) : Int)) := Row.on ((r3.put last 0).cong fun v _ => by unfold upd; split <;> rfl) (al1 _ _)
  have b4 : Below w.heap.size w ((w3.setCell ⟨R, last, none⟩ (.int .i64 0)).alloc (.cells #[.int .i64 (last : Int)] 3)) := al (b03.trans (A4.below hwR)) _
  have s4 : B ≤ ((w3.setCell ⟨R, last, none⟩ (.int .i64 0)).alloc (.cells #[.int .i64 (last : Int)] 3)).heap.size := by simp [z4]; omega
  have HQ := Lib.hid Q4
  have HR := Lib.hid R4
  have HB0 := Lib.hid B0
  have HU0 : Hid (ust n (upd (fun _ => n) last 0) + ([last] : List Nat).length = n ∧ n ≤ n) := Lib.hid ⟨by simpa using U0, Nat.le_refl _⟩
  have HBB := Lib.hid hB
  rw [← hB]
  clear Q4 R4 B0 U0 r3 c3 f3 hB A4 z4 b3 hr a1 b03 hRs hR1
  generalize (w3.setCell ⟨R, last, none⟩ (.int .i64 0)).alloc (.cells #[.int .i64 (last : Int)] 3) = w4 at *
  go_loopg [6] n (fun kk v6 wr => ∃ (f : Nat → Nat) (qs : List Nat), Hid (Qu B wr v6 qs) ∧ Hid (Row wr R n (fun v => ((f v : Nat) : Int))) ∧ Hid (Bq n f qs) ∧ Hid (ust n f + qs.length = kk ∧ kk ≤ n) ∧ Hid (bfs A n kk f qs = RES) ∧ Below w.heap.size w wr ∧ B ≤ wr.heap.size)
  case atStart => exact ⟨_, _, HQ, HR, HB0, HU0, HRES, b4, s4⟩
  case round =>
    clear HQ HR HB0 HU0 HRES b4 s4
    obtain ⟨f, qs, HQ, HR, HB0, HU0, HRES, hB, hS⟩ := hrel
    cases qs with
    | nil =>
      obtain ⟨g, off, c, cur, rfl, -⟩ := HQ.out
      have t1 : decide ((0 : Int) < (([] : List Nat).length : Int)) = false := by simp
      have hf : f = RES := by
        have := HRES.out
        cases gk with
        | zero => exact this
        | succ m => exact this
      have HF := Lib.hid hf
      clear hf HQ
      go_wp2
      go_ret
      exact ⟨R, rfl, hwR, by rw [← HF.out]; exact HR.out, hB⟩
    | cons q t =>
      obtain ⟨g, off, c, rfl, cq, hqc⟩ := HQ.out.head
      obtain ⟨hqn, hqf⟩ := HB0.out.q q (by simp)
      have hN1 : 0 < (q :: t).length := by simp
      have hNk : (q :: t).length ≤ gk := by have := HU0.out.1; omega
      have HGN := Lib.hid HU0.out.2
      have HNK := Lib.hid hNk
      obtain ⟨N, hN⟩ : ∃ N, N = (q :: t).length := ⟨_, rfl⟩
      rw [← hN] at hN1 hqc ⊢
      have HQ1 : Hid (Qu B wr (.slice (some ⟨g, off, none⟩) N c) (q :: t)) := Lib.hid (by rw [hN]; exact HQ.out)
      have t1 : decide ((0 : Int) < (N : Int)) = true := by simp; omega
      have HU1 : Hid (ust n f + t.length + 1 = gk) := Lib.hid (by have := HU0.out.1; simp at this; omega)
      have HFo : Hid ((List.range 0).foldl (bst A n q) (f, t) = (f, t)) := Lib.hid rfl
      have HRES2 : Hid (bfs A n (gk - 1) ((List.range n).foldl (bst A n q) (f, t)).1 ((List.range n).foldl (bst A n q) (f, t)).2 = RES) := Lib.hid (by
        have := HRES.out
        have hu := HU1.out
        rw [show gk = (gk - 1) + 1 by omega] at this
        exact this)
      obtain ⟨f1, hf1⟩ : ∃ f1, f1 = f := ⟨_, rfl⟩
      obtain ⟨tt, htt⟩ : ∃ tt, tt = t := ⟨_, rfl⟩
      rw [← hf1, ← htt] at HRES2
      have HFo : Hid ((List.range 0).foldl (bst A n q) (f1, tt) = (f, t)) := Lib.hid (by rw [hf1, htt]; rfl)
      clear hN HQ HU0 HRES cq hf1 htt hqc hqf
      go_wp2
      go_loopw [6, 27] (fun v6 v27 wr => ∃ (k : Nat) (f : Nat → Nat) (t : List Nat), v27 = .int .i64 k ∧ k ≤ n ∧ Hid (Qu B wr v6 (q :: t)) ∧ Hid (Row wr R n (fun v => ((f v : Nat) : Int))) ∧ Hid (Bq n f (q :: t)) ∧ Hid (ust n f + t.length + 1 = gk) ∧ Hid ((List.range k).foldl (bst A n q) (f1, tt) = (f, t)) ∧ Below w.heap.size w wr ∧ B ≤ wr.heap.size) (fun _ x _ => n - (intOf x).toNat)
      case atStart => exact ⟨0, f, t, rfl, Nat.zero_le _, HQ1, HR, HB0, HU1, HFo, hB, hS⟩
      case round =>
        clear HQ1 HR HB0 HU1 HFo hB hS
        obtain ⟨k, f, t, rfl, hk, HQ, HR, HB0, HU1, HFo, hB, hS⟩ := hrel
        obtain ⟨g, off, c, rfl, cq, hqc⟩ := HQ.out.head
        obtain ⟨N2, hN2⟩ : ∃ N, N = (q :: t).length := ⟨_, rfl⟩
        have HQ1 : Hid (Qu B wr (.slice (some ⟨g, off, none⟩) N2 c) (q :: t)) := Lib.hid (by rw [hN2]; exact HQ.out)
        have hN1 : 0 < N2 := by rw [hN2]; simp
        have hNT : N2 = t.length + 1 := by rw [hN2]; rfl
        rw [← hN2] at hqc ⊢
        have HNT := Lib.hid hNT
        have qlen : (q :: t).length ≤ 100000 := by have := HU1.out; have := HGN.out; simp; omega
        clear hN2 HQ hNT
        by_cases hlt : k < n
        · have g1 : decide ((k : Int) < (n : Int)) = true := by simp [hlt]
          have W1 : IntKind.i64.wrap ((k : Int) + 1) = ((k + 1 : Nat) : Int) := by rw [IntWalk.i64_in _ (by omega)]; omega
          have q3 : (0 : Int) ≤ (k : Int) := by omega
          have q4 : (k : Int) < (n : Int) := by omega
          have q5 : (0 : Int) < (N2 : Int) := by omega
          have q6 : (0 : Int) ≤ (q : Int) := by omega
          have q7 : (q : Int) < (n : Int) := by omega
          obtain ⟨u, cu, ru⟩ := (hG.on hB).rd k hlt
          have hC := contains_any u (A k) q wr ru (Nat.le_trans (hlen k) (by omega))
          have ck := HR.out.read hlt
          have fk := Has.open_ HR.out k
          have cqr := HR.out.read hqn
          have hst := fold_range (bst A n q) (f1, tt) k
          rw [HFo.out] at hst
          have hinv := bst_inv (A := A) HB0.out hlt
          have hfq := (HB0.out.q q (by simp)).2
          have hbq := HB0.out.b q hfq
          obtain ⟨dk, hdk⟩ : ∃ d, d = f k := ⟨_, rfl⟩
          obtain ⟨dq, hdq⟩ : ∃ d, d = f q := ⟨_, rfl⟩
          rw [← hdk] at ck
          rw [← hdq] at cqr hbq
          by_cases h1 : f k = n
          · have t2 : ((dk : Int) == (n : Int)) = true := by simp; omega
            cases hc : (A k).contains q
            · rw [hc] at hC
              have hno : ¬ (f k = n ∧ q ∈ A k) := fun h => by
                have := List.contains_iff_mem.2 h.2
                rw [hc] at this; cases this
              rw [bst_no hno] at hst
              have HST := Lib.hid hst
              clear hst hinv hno hc h1 hdk hdq hfq hbq
              go_wp2_with (go_at_call 34; (with_reducible refine hC.mono ?_); rintro e w6 ⟨rfl, rfl⟩)
              exact ⟨⟨k + 1, f, t, rfl, hlt, HQ1, HR, HB0, HU1, HST, hB, hS⟩, by simp [intOf]; omega⟩
            · rw [hc] at hC
              have hyes : f k = n ∧ q ∈ A k := ⟨h1, List.contains_iff_mem.1 hc⟩
              rw [bst_yes hyes] at hst hinv
              simp only at hinv
              have HST := Lib.hid hst
              have HIN := Lib.hid hinv
              have W5 : IntKind.i64.wrap ((dq : Int) + 1) = (dq : Int) + 1 := IntWalk.i64_in _ (by omega)
              have R3 : Hid (Row (wr.setCell ⟨R, k, none⟩ (.int .i64 ((dq : Int) + 1))) R n (fun v => ((upd f k (f q + 1) v : Nat) : Int))) := Lib.hid ((HR.out.put k ((dq : Int) + 1)).cong fun v _ => by
                unfold upd
                by_cases e : v = k
                · rw [if_pos e, if_pos e, hdq]; omega
                · rw [if_neg e, if_neg e])
              have A3 : At R wr (wr.setCell ⟨R, k, none⟩ (.int .i64 ((dq : Int) + 1))) := (At.refl _ _).put _ _
              have Q3 := Lib.hid (HQ1.out.at_ A3 hRB)
              have B3 := hB.setCell (p := ⟨R, k, none⟩) hwR (.int .i64 ((dq : Int) + 1))
              have S3 : B ≤ (wr.setCell ⟨R, k, none⟩ (.int .i64 ((dq : Int) + 1))).heap.size := by rw [A3.size]; exact hS
              have z3 := A3.size
              have HZ3 := Lib.hid z3
              have NC : ((wr.setCell ⟨R, k, none⟩ (.int .i64 ((dq : Int) + 1))).alloc (.cells #[.int .i64 (k : Int)] 3)).cell? ⟨wr.heap.size, 0, none⟩ = some (.int .i64 (k : Int)) := by
                have := (Has.new_ (wr.setCell ⟨R, k, none⟩ (.int .i64 ((dq : Int) + 1))) 3 #[.int .i64 (k : Int)]).read 0
                rw [z3] at this
                exact this
              have HNC := Lib.hid NC
              clear hst hinv hyes hc h1 hdk hdq hfq hbq A3 z3 NC
              go_wp2_with (first
                | (go_at_call 34; (with_reducible refine hC.mono ?_); rintro e w6 ⟨rfl, rfl⟩)
                | (at_builtin; refine wpList_queue rfl _ _ rfl rfl (Q3.out.on (al1 _ _)) ⟨wr.heap.size, 0, none⟩ 1 rfl HNC.out qlen (Nat.le_trans S3 (al1 _ _).size) ?_))
              intro v' w7 Q7 B7
              have b3 := al1 (wr.setCell ⟨R, k, none⟩ (.int .i64 ((dq : Int) + 1))) (.cells #[.int .i64 (k : Int)] 3)
              have B8 : Below B (wr.setCell ⟨R, k, none⟩ (.int .i64 ((dq : Int) + 1))) w7 := (b3.mono S3).trans B7
              have R8 := Lib.hid (has_below R3.out B8 hRB)
              have hB8 : Below w.heap.size w w7 := B3.trans (B8.mono (by omega))
              have hS8 : B ≤ w7.heap.size := Nat.le_trans S3 B8.size
              have HQ8 : Hid (Qu B w7 v' (q :: (t ++ [k]))) := Lib.hid Q7
              clear Q7 B7 b3 B8
              go_wp2
              exact ⟨⟨k + 1, upd f k (f q + 1), t ++ [k], rfl, hlt, HQ8, R8, Lib.hid HIN.out.1, Lib.hid (by have := HIN.out.2; have := HU1.out; omega), HST, hB8, hS8⟩, by simp [intOf]; omega⟩
          · have t2 : ((dk : Int) == (n : Int)) = false := by simp; omega
            rw [bst_no (fun h => h1 h.1)] at hst
            have HST := Lib.hid hst
            clear hst hinv h1 hdk hdq hfq hbq hC
            go_wp2
            exact ⟨⟨k + 1, f, t, rfl, hlt, HQ1, HR, HB0, HU1, HST, hB, hS⟩, by simp [intOf]; omega⟩
        · have g1 : decide ((k : Int) < (n : Int)) = false := by simp; omega
          have e : k = n := by omega
          have hF := HFo.out
          rw [e] at hF
          have HRES3 : Hid (bfs A n (gk - 1) f t = RES) := Lib.hid (by have := HRES2.out; rw [hF] at this; exact this)
          have HB3 : Hid (Bq n f t) := Lib.hid ⟨HB0.out.b, fun x hx => HB0.out.q x (by simp [hx])⟩
          have HU3 : Hid (ust n f + t.length = gk - 1 ∧ gk - 1 ≤ n) := Lib.hid (by have := HU1.out; have := HGN.out; omega)
          have hgk : gk - 1 < gk := by have := HU1.out; omega
          have HGK := Lib.hid hgk
          clear hF e hgk
          obtain ⟨M, hM⟩ : ∃ M, M = t.length := ⟨_, rfl⟩
          have HM := Lib.hid hM
          obtain rfl : N2 = M + 1 := by rw [HNT.out, HM.out]
          clear hM
          have q8 : (1 : Int) ≤ ((M + 1 : Nat) : Int) := by omega
          have q9 : ((M + 1 : Nat) : Int) ≤ (c : Int) := by omega
          have q10 : (1 : Int) ≤ (c : Int) := by omega
          by_cases HC : c = 1
          · subst HC
            have HC : (1 : Nat) = 1 := rfl
            obtain rfl : M = 0 := by omega
            have Z6 : Qu B wr (.slice (some ⟨g, off, none⟩) 0 0) t := by
              have q := Qu.pop (by have := HQ1.out; rw [show (0 + 1) = (q :: t).length by rw [List.length_cons, ← HM.out]] at this; exact this) (some ⟨g, off, none⟩) (by simp)
              rw [← HM.out] at q; exact q
            have HZ6 := Lib.hid Z6
            clear Z6 HC HQ1
            go_wp2
            go_roundg (gk - 1)
            case measure => exact HGK.out
            case rel => exact ⟨f, t, HZ6, HR, HB3, HU3, HRES3, hB, hS⟩
          · have q11 : ¬ (c : Int) = 1 := by omega
            have Z6 : Qu B wr (.slice (some ⟨g, off + 1, none⟩) M (c - 1)) t := by
              have q := Qu.pop (by have := HQ1.out; rw [show (M + 1) = (q :: t).length by rw [List.length_cons, ← HM.out]] at this; exact this) (some ⟨g, off + 1, none⟩) (by simp [HC])
              rw [← HM.out] at q; exact q
            have HZ6 := Lib.hid Z6
            clear Z6 HC HQ1
            go_wp2
            go_roundg (gk - 1)
            case measure => exact HGK.out
            case rel => exact ⟨f, t, HZ6, HR, HB3, HU3, HRES3, hB, hS⟩
end Go.Proofs.Yteofbbakegcohaa
