/- DigraphReaches: Reach, an edge to itself, facts. -/
import Derived.Test.YteofbbakegcohaaRx
import Derived.Test.YteofbbakegcohaaEl
namespace Go.Proofs.Yteofbbakegcohaa
open Go.ChangeShapes Go.WideShapes Go.ChangeAt Go.RowKit
set_option linter.unusedVariables false
set_option linter.unusedSimpArgs false


set_option maxRecDepth 100000 in
theorem reach_ok (p : Option Addr) (n : Nat) (l : List (Nat × Nat)) (cap v : Nat) (w : World) (hG : Gr w p n l) (hv : v < n) :
    Calls Try.prog 35 #[.int .i64 n, .slice p l.length cap, .int .i64 v] w fun e w' => ∃ u, e = .returned (.tuple #[u, .int .i64 0]) ∧ Own w.heap.size w' u (rch (adj l) n v) ∧ Below w.heap.size w w' := by
  have hW := fun W => within_any (v : Int) (n : Int) W
  rw [show wi (v : Int) (n : Int) = true by unfold wi; rw [decide_eq_true (by omega), decide_eq_true (by omega)]; rfl] at hW
  go_enter Try.func35, Try.ntmps35
  go_wp2_with (first
    | (go_at_call 15; (with_reducible refine (valid_ok cap hG).mono ?_); rintro e w1 ⟨rfl, b1⟩; have hG1 := hG.on b1)
    | (go_at_call 45; (with_reducible refine (hW _).mono ?_); rintro e w9 ⟨rfl, rfl⟩)
    | (go_at_call 42; (with_reducible refine (graph_gm p n l cap _ hG1).mono ?_); rintro e w2 ⟨rfl, g2, b2⟩)
    | (go_at_call 58; (with_reducible refine (reach_any w1.heap.size n v (adj l) _ g2 hv).mono ?_); rintro e w3 ⟨u, rfl, o3, b3⟩))
  refine bodyPost_ret (v := .tuple #[u, .int .i64 0]) (by simp [results, Try.results35, go_sem]) rfl ⟨u, rfl, Own.mono o3 (belows b1 b2).size, belows (belows b1 b2) b3⟩
set_option maxRecDepth 100000 in
theorem clo41 (x y : Nat) (w : World) :
    Calls Try.prog 41 #[.agg #[.int .i64 x, .int .i64 y]] w fun e w' => e = .returned (.bool (decide (x = y))) ∧ Below w.heap.size w w' := by
  have C := Has.new_ w 42 #[.int .i64 (x : Int), .int .i64 (y : Int)]
  have C0 := C.read 0
  have C1 := C.read 1
  have b1 := al1 w (.cells #[.int .i64 (x : Int), .int .i64 (y : Int)] 42)
  have e : decide (x = y) = decide ((x : Int) = (y : Int)) := by
    by_cases h : x = y
    · rw [decide_eq_true h, decide_eq_true (by omega)]
    · rw [decide_eq_false h, decide_eq_false (by omega)]
  rw [e]
  clear C e
  go_enter Try.func41, Try.ntmps41
  go_wp2_with fail
  try go_quiet (fail)
  try go_wp2
  go_ret
  exact ⟨by first | rfl | simp, by first | exact b1 | exact below_drewN b1 _⟩
def slf (l : List (Nat × Nat)) : Bool := l.any fun e => decide (e.1 = e.2)
theorem slf_yes {l : List (Nat × Nat)} {k : Nat} (hk : k < l.length) (h : decide (l[k].1 = l[k].2) = true) : slf l = true := List.any_eq_true.2 ⟨_, List.getElem_mem hk, h⟩
set_option maxRecDepth 100000 in
theorem idx41 (p : Option Addr) (l : List (Nat × Nat)) (cap n : Nat) (w : World) (hS : Gr w p n l) :
    Calls Try.prog 60 #[.slice p l.length cap, .func (.func 41) #[] #[]] w fun e w' => ∃ i : Int, e = .returned (.int .i64 i) ∧ decide (0 ≤ i) = slf l ∧ Below w.heap.size w w' := by
  have hm := hS.2.1
  go_enter Try.func60, Try.ntmps60
  go_wp2
  go_loopw [8] (fun v wr => ∃ k : Nat, v = .int .i64 k ∧ k ≤ l.length ∧ Hid (∀ x ∈ l.take k, decide (x.1 = x.2) = false) ∧ Below w.heap.size w wr) (fun v _ => l.length - (intOf v).toNat)
  case atStart => exact ⟨0, rfl, Nat.zero_le _, Lib.hid (by simp), Below.refl _ _⟩
  case round =>
    obtain ⟨k, rfl, hk, hG, hB⟩ := hrel
    by_cases hlt : k < l.length
    · have g1 : decide ((k : Int) < (l.length : Int)) = true := by simp [hlt]
      obtain ⟨a, rfl, c0, c1, l1, l2⟩ := (hS.on hB).at hlt
      have W1 : IntKind.i64.wrap ((k : Int) + 1) = ((k + 1 : Nat) : Int) := by rw [IntWalk.i64_in _ (by omega)]; omega
      have HT : Hid (∀ x ∈ l.take (k + 1), x ∈ l.take k ∨ x = l[k]) := Lib.hid fun x hx => by
        rw [List.take_succ_eq_append_getElem hlt, List.mem_append] at hx
        rcases hx with hx | hx
        · exact .inl hx
        · exact .inr (List.mem_singleton.1 hx)
      have HY := Lib.hid (fun h => slf_yes hlt h)
      obtain ⟨x, hx⟩ : ∃ x, x = l[k].1 := ⟨_, rfl⟩
      obtain ⟨y, hy⟩ : ∃ y, y = l[k].2 := ⟨_, rfl⟩
      rw [← hx] at c0 HY
      rw [← hy] at c1 HY
      have HQ : Hid (x = l[k].1 ∧ y = l[k].2) := Lib.hid ⟨hx, hy⟩
      clear hx hy l1 l2
      have hb := clo41 x y wr
      cases hv : decide (x = y)
      · have HG : Hid (∀ x ∈ l.take (k + 1), decide (x.1 = x.2) = false) := Lib.hid fun e he => by
          rcases HT.out e he with h | h
          · exact hG.out e h
          · rw [h, ← HQ.out.1, ← HQ.out.2]; exact hv
        rw [hv] at hb
        clear hv
        go_wp2_with (go_at_call 41; (with_reducible refine hb.mono ?_); rintro e1 w1 ⟨rfl, b1⟩)
        exact ⟨⟨k + 1, rfl, hlt, HG, belows hB b1⟩, by simp [intOf]; omega⟩
      · have HE := Lib.hid (HY.out hv)
        rw [hv] at hb
        clear hv
        go_wp2_with (go_at_call 41; (with_reducible refine hb.mono ?_); rintro e1 w1 ⟨rfl, b1⟩)
        go_ret
        exact ⟨_, rfl, by rw [HE.out]; simp, belows hB b1⟩
    · have g1 : decide ((k : Int) < (l.length : Int)) = false := by simp; omega
      have HE : Hid (slf l = false) := Lib.hid (List.any_eq_false.2 fun x hx => by
        rw [hG.out x (by rw [List.take_of_length_le (by omega)]; exact hx)]; simp)
      go_wp2
      go_ret
      exact ⟨_, rfl, by rw [HE.out]; rfl, hB⟩
theorem con41 (p : Option Addr) (l : List (Nat × Nat)) (cap n : Nat) (w : World) (hS : Gr w p n l) :
    Calls Try.prog 40 #[.slice p l.length cap, .func (.func 41) #[] #[]] w fun e w' => e = .returned (.bool (slf l)) ∧ Below w.heap.size w w' := by
  have h := idx41 p l cap n w hS
  obtain ⟨Y, hY⟩ : ∃ Y, Y = slf l := ⟨_, rfl⟩
  rw [← hY] at h ⊢
  clear hY
  go_enter Try.func40, Try.ntmps40
  go_wp2_with (go_at_call 60; (with_reducible refine h.mono ?_); rintro e w' ⟨i, rfl, hi, hb⟩)
  go_ret
  exact ⟨rfl, hb⟩
/-- The nodes of some parts. -/
def mks (ls : List (List Nat)) (x : Nat) : Bool := ls.any fun q => q.contains x
theorem flat_nodup {A : Nat → List Nat} {n : Nat} {ls : List (List Nat)} (hc : Cls n A ls) : ls.flatten.Nodup := by
  refine List.pairwise_flatten.2 ⟨fun q hq => (hc.p1 q hq).1, hc.p3.imp fun {a b} h => ?_⟩
  intro x hx y hy e
  exact h x hx (by rw [e]; exact hy)
theorem flat_len {A : Nat → List Nat} {n : Nat} {ls : List (List Nat)} (hc : Cls n A ls) (hlt : ∀ q ∈ ls, ∀ x ∈ q, x < n) : ls.flatten.length = n := by
  have h1 := nodup_le n ls.flatten (flat_nodup hc) (fun x hx => by
    obtain ⟨q, hq, hxq⟩ := List.mem_flatten.1 hx
    exact hlt q hq x hxq)
  have h2 := List.nodup_range.length_le_of_subset (fun x hx => by
    obtain ⟨q, hq, hxq⟩ := hc.p2 x (List.mem_range.1 hx)
    exact List.mem_flatten.2 ⟨q, hq, hxq⟩ : List.range n ⊆ ls.flatten)
  rw [List.length_range] at h2
  omega
/-- There is a loop exactly if a part has several nodes, or a node an edge to itself. -/
theorem flag_iff {l : List (Nat × Nat)} {n : Nat} {ls : List (List Nat)} (hc : Cls n (adj l) ls) (hl : ∀ x ∈ l, x.1 < n ∧ x.2 < n) : (slf l || ls.any fun q => decide (1 < q.length)) = ls.any (lpy (adj l)) := by
  rw [Bool.eq_iff_iff]
  constructor
  · intro h
    rcases Bool.or_eq_true_iff.1 h with h | h
    · obtain ⟨e, he, h2⟩ := List.any_eq_true.1 h
      have h2 := of_decide_eq_true h2
      obtain ⟨q, hq, hm⟩ := hc.p2 e.1 (hl e he).1
      refine List.any_eq_true.2 ⟨q, hq, ?_⟩
      unfold lpy
      by_cases h1 : 1 < q.length
      · rw [decide_eq_true h1]; rfl
      · have he1 : hd q = e.1 := by
          match q, h1, hm with
          | [a], _, hm => simp at hm; simp [hd, hm]
          | a :: b :: t, h1, _ => simp at h1
        rw [he1]
        have : e.1 ∈ adj l e.1 := (mem_adj l _ _).2 (by
          have : e = (e.1, e.1) := by rw [Prod.ext_iff]; exact ⟨rfl, h2.symm⟩
          rw [← this]; exact he)
        simp [this]
    · obtain ⟨q, hq, h2⟩ := List.any_eq_true.1 h
      refine List.any_eq_true.2 ⟨q, hq, ?_⟩
      unfold lpy
      rw [h2]; rfl
  · intro h
    obtain ⟨q, hq, h2⟩ := List.any_eq_true.1 h
    unfold lpy at h2
    rw [Bool.or_eq_true_iff]
    rcases Bool.or_eq_true_iff.1 h2 with h3 | h3
    · exact .inr (List.any_eq_true.2 ⟨q, hq, h3⟩)
    · refine .inl (List.any_eq_true.2 ⟨(hd q, hd q), (mem_adj l _ _).1 (by simpa using h3), by simp⟩)
theorem rch_same {A : Nat → List Nat} {n : Nat} (hA : ∀ v, v < n → ∀ u ∈ A v, u < n) {a b : Nat} (ha : a < n) (hb : b < n) (h : Sam A a b) : rch A n a = rch A n b := by
  unfold rch
  refine List.filter_congr fun x _ => ?_
  rw [Bool.eq_iff_iff, rmk_iff hA ha, rmk_iff hA hb]
  exact ⟨fun k => h.2.trans k, fun k => h.1.trans k⟩
theorem rch_self {A : Nat → List Nat} {n v : Nat} (hA : ∀ v, v < n → ∀ u ∈ A v, u < n) (hv : v < n) : (rch A n v).contains v = true := List.contains_iff_mem.2 ((mem_rch hA hv v).2 (.refl v))
theorem rch_edge {l : List (Nat × Nat)} {n v : Nat} (hA : ∀ v, v < n → ∀ u ∈ adj l v, u < n) (hv : v < n) {x y : Nat} (he : (x, y) ∈ l) (hx : (rch (adj l) n v).contains x = true) : (rch (adj l) n v).contains y = true :=
  List.contains_iff_mem.2 ((mem_rch hA hv y).2 (((mem_rch hA hv x).1 (List.contains_iff_mem.1 hx)).trans (.edge ((mem_adj l x y).2 he))))
end Go.Proofs.Yteofbbakegcohaa
