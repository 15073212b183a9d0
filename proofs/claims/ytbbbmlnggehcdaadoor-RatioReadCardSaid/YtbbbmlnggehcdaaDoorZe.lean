/- Copies of lists of fractions, and reversed ones: what lies in their cells. RatioRead returns true: where it says nothing; facts. RatioRead returns true: a walk. RatioRead returns true: walks. RatioRead returns true: walks. RatioRead returns true: the walks, put together. -/
import Derived.Test.YtbbbmlnggehcdaaDoorZd
import Derived.Shelf.SlicesQ.Reverse
import Derived.Laws.OwnMore
import Derived.OwnWalk
import Derived.Test.YtbbbmlnggehcdaaDoorZc
namespace Go.Proofs
def Tryd.revF_ren : Go.Shelf.Ren := ⟨fun | 35 => 39 | x => x, fun | 22 => 41 | x => x, fun x => x⟩
theorem Tryd.revF : Go.Proofs.SlLaysE0.n35 Tryd.prog Tryd.revF_ren := {
  mixed := by kernel_rfl
  f35 := ⟨"slices.Reverse[[]stirrup/api.Frac,stirrup/api.Frac]", by decide, Tryd.func39.trans (congrArg some (by kernel_rfl))⟩
  t0 := Tryd.underlying0
  a0 := Tryd.isAgg0
  z0 := Tryd.sizeOf0
  v0 := Tryd.zeroValue0
  t3 := Tryd.underlying3
  a3 := Tryd.isAgg3
  z3 := Tryd.sizeOf3
  v3 := Tryd.zeroValue3
  t4 := Tryd.underlying4
  a4 := Tryd.isAgg4
  z4 := Tryd.sizeOf4
  v4 := Tryd.zeroValue4
  t22 := Tryd.underlying41
  a22 := Tryd.isAgg41
  z22 := Tryd.sizeOf41
  v22 := Tryd.zeroValue41 }
end Go.Proofs
namespace Go.Proofs.YtbbbmlnggehcdaaDoor
open Go.ChangeShapes Go.WideShapes Go.ChangeAt Go.RowKit Go.Sort
set_option linter.unusedVariables false
set_option linter.unusedSimpArgs false

def encF (x : Int × Int) : List Value := [.int .i64 x.1, .int .i64 x.2]
def newsF : List (Int × Int) → List Value
  | [] => []
  | x :: l => .int .i64 x.1 :: .int .i64 x.2 :: newsF l
theorem newsF_len : ∀ (l : List (Int × Int)), (newsF l).length = l.length * 2
  | [] => rfl
  | x :: l => by simp [newsF, newsF_len l]; omega
theorem newsF_get : ∀ (l : List (Int × Int)) (i : Nat) (h : i < l.length), (newsF l)[i * 2]? = some (.int .i64 l[i].1) ∧ (newsF l)[i * 2 + 1]? = some (.int .i64 l[i].2)
  | x :: l, 0, _ => by simp [newsF]
  | x :: l, i + 1, h => by
    have k := newsF_get l i (by simpa using h)
    have e1 : (i + 1) * 2 = i * 2 + 1 + 1 := by omega
    have e2 : (i + 1) * 2 + 1 = i * 2 + 1 + 1 + 1 := by omega
    rw [e2, e1]
    simpa [newsF] using k
theorem newsF_one : ∀ (l : List (Int × Int)), ∀ u ∈ newsF l, u.oneCell' = true
  | [], u, h => by simp [newsF] at h
  | x :: l, u, h => by
    simp only [newsF, List.mem_cons] at h
    rcases h with rfl | rfl | h
    · rfl
    · rfl
    · exact newsF_one l u h
theorem newsF_at {l : List (Int × Int)} {j : Nat} (h : j < l.length * 2) : (newsF l)[j]? = some ((encF l.toArray[j / 2]!)[j % 2]!) := by
  obtain ⟨i, c, hc, rfl⟩ : ∃ i c, c < 2 ∧ j = i * 2 + c := ⟨j / 2, j % 2, by omega, by omega⟩
  have hi : i < l.length := by omega
  have e1 : (i * 2 + c) / 2 = i := by omega
  have e2 : (i * 2 + c) % 2 = c := by omega
  rw [e1, e2]
  have e : l.toArray[i]! = l[i] := by simp [hi]
  rw [e]
  rcases (by omega : c = 0 ∨ c = 1) with rfl | rfl
  · simpa [encF] using (newsF_get l i hi).1
  · simpa [encF] using (newsF_get l i hi).2

/-- A list of fractions in memory of the call's own. -/
def OwnF (B : Nat) (w : World) (p : Option Addr) (l : List (Int × Int)) : Prop := (p = none ∧ l = []) ∨ ∃ g, p = some ⟨g, 0, none⟩ ∧ B ≤ g ∧ HoldsK encF 2 w g 0 l.toArray
theorem own_open {B : Nat} {w : World} {v : Value} {l : List (Int × Int)} (h : w.ownsRow B 23 2 v l.length (newsF l)) : ∃ p cap, v = .slice p l.length cap ∧ OwnF B w p l := by
  have h0 := h
  obtain ⟨hl, ⟨rfl, hn⟩ | ⟨g, cap, cur, rfl, hB, -⟩⟩ := h
  · have : l = [] := List.eq_nil_of_length_eq_zero hn
    subst this
    exact ⟨none, 0, rfl, .inl ⟨rfl, rfl⟩⟩
  · refine ⟨_, cap, rfl, .inr ⟨g, rfl, hB, fun j hj => ?_⟩⟩
    have hj' : j < l.length * 2 := by simpa using hj
    have c := World.ownsRow.cellAt h0 j hj'
    have f := World.ownsRow.frozenAt h0 j
    have e := get_flatK encF 2 l.toArray j (by simpa using hj')
    rw [Nat.zero_add, c, newsF_at hj', e]
    exact ⟨rfl, f⟩
theorem OwnF.sl {B : Nat} {w : World} {p : Option Addr} {l : List (Int × Int)} (h : OwnF B w p l) (hm : l.length ≤ maxLen) (hI : ∀ x ∈ l, I64 x.1 ∧ I64 x.2) : Sl w p l := by
  rcases h with ⟨rfl, rfl⟩ | ⟨g, rfl, -, hK⟩
  · exact ⟨fun _ => rfl, (fun a h => by cases h), hm, hI⟩
  · refine ⟨fun h => (by cases h), fun a h => ?_, hm, hI⟩
    cases h
    intro i hi
    have e : l.toArray[i]! = l[i] := by simp [hi]
    have c0 := (HoldsK.cell hK (i := i) (c := 0) (by simpa using hi) (by omega)).1
    have c1 := (HoldsK.cell hK (i := i) (c := 1) (by simpa using hi) (by omega)).1
    rw [e] at c0 c1
    rw [Addr.add_lit]
    exact ⟨by simpa [encF] using c0, by simpa [encF] using c1⟩
theorem putRow_below {B : Nat} (enc : (Int × Int) → List Value) (w : World) (n g : Nat) (d : Array (Int × Int)) (hB : B ≤ g) : Below B w (putRowK enc 2 (Sort.ahead w n) g 0 d) := by
  refine ⟨rfl, rfl, rfl, ?_, fun k hk => ?_⟩
  · simp [putRowK, putRow, mapBlock]
  · have : g ≠ k := by omega
    simp [putRowK, putRow, mapBlock, Array.getElem?_modify, this]
theorem OwnF.put {B : Nat} {w : World} {g n : Nat} {l m : List (Int × Int)} (hB : B ≤ g) (h : HoldsK encF 2 w g 0 l.toArray) (hs : m.length = l.length) : OwnF B (putRowK encF 2 (Sort.ahead w n) g 0 m.toArray) (some ⟨g, 0, none⟩) m :=
  .inr ⟨g, rfl, hB, holdsK_putRowK encF 2 (Sort.ahead w n) g 0 l.toArray m.toArray (holdsK_ahead encF 2 w n g 0 _ h) (by simpa using hs)⟩
theorem OwnF.on {B : Nat} {w w1 : World} {p : Option Addr} {l : List (Int × Int)} (h : OwnF B w p l) (hb : Below w.heap.size w w1) : OwnF B w1 p l := by
  rcases h with h | ⟨g, rfl, hB, hK⟩
  · exact .inl h
  · refine .inr ⟨g, rfl, hB, fun j hj => ?_⟩
    have c := hK j hj
    have hg : g < w.heap.size := by
      have := c.1
      rcases Nat.lt_or_ge g w.heap.size with h | h
      · exact h
      · rw [World.cell?, Array.getElem?_eq_none h] at this; cases this
    exact ⟨(hb.cell hg).trans c.1, (hb.frozen hg).trans c.2⟩

theorem info23 : (Tryd.prog.info? 23).map (fun i => (i.zero, i.size, i.bytes)) = some (some (.agg #[.int .i64 0, .int .i64 0]), 2, 16) := by kernel_rfl

set_option maxRecDepth 100000 in
set_option maxHeartbeats 2000000 in
theorem clone_any (p : Option Addr) (l : List (Int × Int)) (cap : Nat) (w : World) (hS : Sl w p l) (hl : l.length ≤ 1000) :
    Calls Tryd.prog 38 #[.slice p l.length cap] w fun e w' => ∃ q c, e = .returned (.slice q l.length c) ∧ OwnF w.heap.size w' q l ∧ Below w.heap.size w w' := by
  have q22 : ∀ (w : World) (a : Option Addr) (n c n' c' : Nat), (binOp .eql 41 (.slice a n c) (.slice none n' c')).run Tryd.prog w = .ok (.bool a.isNone) w := fun w a n c n' c' => Lib.run_eql_slice_nil w _ _ a n c n' c' Tryd.underlying41
  cases p with
  | none =>
    have e := hS.1 rfl
    subst e
    go_enter Tryd.func38, Tryd.ntmps38
    go_wp2
    go_ret
    exact ⟨none, 0, rfl, .inl ⟨rfl, rfl⟩, Below.refl _ _⟩
  | some a =>
    obtain ⟨i0, hi, hz0, hz1, hz2⟩ := info_parts info23
    have hF := hS.2.1 a rfl
    have A : Aside (Fr w a l) := hF
    have hlen := newsF_len l
    have hone := newsF_one l
    clear hF hS
    generalize hN : newsF l = news at *
    have HN := Lib.hid hN; clear hN
    go_enter Tryd.func38, Tryd.ntmps38
    go_wp2_with (at_builtin; refine wpList_append_own _ rfl _ _ 41 rfl w.heap.size 23 i0 _ 2 16 Tryd.underlying41 hi hz0 hz1 hz2 rfl (by decide) _ _ _ rfl (World.ownsRow_made w #[] 0 (Nat.le_refl _) (Nat.zero_le _) (by simp)) a l.length cap news rfl ?qc1 ?qc2 ?qc3 ?qc4 ?qc5 ?qc6 ?_)
    case qc1 => exact hlen
    case qc2 =>
      intro j u hj
      have hb : Below w.heap.size w (w.alloc (.cells #[] 23)) := al1 _ _
      have hF := A.out.on hb
      have hj2 : j < l.length * 2 := by rw [← hlen]; exact (List.getElem?_eq_some_iff.1 hj).1
      rw [← HN.out] at hj
      obtain ⟨i, c, hc, rfl⟩ : ∃ i c, c < 2 ∧ j = i * 2 + c := ⟨j / 2, j % 2, by omega, by omega⟩
      have hil : i < l.length := by omega
      have g := newsF_get l i hil
      have f := hF i hil
      rcases (by omega : c = 0 ∨ c = 1) with rfl | rfl
      · rw [Nat.add_zero] at hj ⊢; rw [g.1] at hj; rw [f.1]; exact hj
      · rw [g.2] at hj
        have e : (⟨(a.add (i * 2)).block, (a.add (i * 2)).off + 1, none⟩ : Addr) = a.add (i * 2 + 1) := by
          unfold Addr.add
          by_cases hz : i * 2 = 0
          · simp [hz]
          · simp [hz]; omega
        rw [← e, f.2]; exact hj
    case qc3 => exact hone
    case qc4 => unfold maxLen; omega
    case qc5 => omega
    case qc6 => simp
    intro v' w1 hown hgrow hnil
    go_wp2
    go_ret
    rw [← HN.out] at hown
    obtain ⟨q, c, rfl, ho⟩ := own_open (by simpa using hown)
    refine ⟨q, c, rfl, ho, ?_⟩
    exact ((Below.refl _ w).alloc (Nat.le_refl _) _).grown hgrow (by simp) (by intro k hk; simp [Value.ownBlock] at hk; omega)

theorem reverse_any (B : Nat) (p : Option Addr) (l : List (Int × Int)) (cap : Nat) (w : World) (hO : OwnF B w p l) (hl : l.length ≤ 1000) :
    Calls Tryd.prog 39 #[.slice p l.length cap] w fun e w' => e = .returned (.tuple #[]) ∧ OwnF B w' p l.reverse ∧ Below B w w' := by
  rcases hO with ⟨rfl, rfl⟩ | ⟨g, rfl, hB, hK⟩
  · refine (AnyQ.slices_Reverse_empty Tryd.revF none cap w).mono ?_
    rintro e w' ⟨rfl, rfl⟩
    exact ⟨rfl, .inl ⟨rfl, rfl⟩, Below.refl _ _⟩
  · have h := AnyQ.slices_Reverse Tryd.revF 2 Tryd.isAgg23 Tryd.sizeOf23 encF (fun _ => rfl) (fun x v hv => by simp [encF] at hv; rcases hv with rfl | rfl <;> rfl) g 0 cap l.toArray w hK (by simp; omega)
    refine h.mono ?_
    rintro e w' ⟨rfl, n, rfl⟩
    have e : l.toArray.reverse = l.reverse.toArray := by simp
    rw [e]
    exact ⟨rfl, OwnF.put hB hK (by simp), putRow_below _ _ _ _ _ hB⟩
end Go.Proofs.YtbbbmlnggehcdaaDoor
namespace Go.Proofs.YtbbbmlnggehcdaaDoor
open Go.ChangeShapes Go.WideShapes Go.ChangeAt Go.RowKit Go.Shelf
set_option linter.unusedVariables false
set_option linter.unusedSimpArgs false

theorem Sl.take {w : World} {p : Option Addr} {l : List (Int × Int)} (h : Sl w p l) (k : Nat) : Sl w p (l.take k) := by
  refine ⟨fun e => by rw [h.1 e]; simp, fun a ha i hi => ?_, Nat.le_trans (by rw [List.length_take]; exact Nat.min_le_right _ _) h.2.2.1, fun x hx => h.2.2.2 x (List.mem_of_mem_take hx)⟩
  have hi' : i < l.length := by have := hi; rw [List.length_take] at this; omega
  have := h.2.1 a ha i hi'
  simpa using this
theorem add_add2 (a : Addr) (i k : Nat) : (a.add (k * 2)).add (i * 2) = a.add ((k + i) * 2) := by
  unfold Addr.add
  by_cases h1 : k * 2 = 0 <;> by_cases h2 : i * 2 = 0
  · have e1 : k = 0 := by omega
    have e2 : i = 0 := by omega
    simp [e1, e2]
  · have e1 : k = 0 := by omega
    simp [e1, h2]
  · have e2 : i = 0 := by omega
    simp [e2, h1]
  · rw [if_neg h1, if_neg h2, if_neg (by omega)]
    simp; omega
theorem Sl.drop {w : World} {a : Addr} {l : List (Int × Int)} (h : Sl w (some a) l) (k : Nat) : Sl w (some (a.add (k * 2))) (l.drop k) := by
  refine ⟨fun e => (by cases e), fun b hb i hi => ?_, by have := h.2.2.1; rw [List.length_drop]; omega, fun x hx => h.2.2.2 x (List.mem_of_mem_drop hx)⟩
  cases hb
  have hi' : k + i < l.length := by rw [List.length_drop] at hi; omega
  have := h.2.1 a rfl (k + i) hi'
  rw [add_add2]
  simpa using this
theorem Sl.nil (w : World) (p : Option Addr) : Sl w p [] := ⟨fun _ => rfl, fun a ha i hi => (by simp at hi), Nat.zero_le _, fun x hx => by cases hx⟩
set_option maxRecDepth 100000 in
set_option maxHeartbeats 4000000 in
theorem read_early (p : Option Addr) (l : List (Int × Int)) (cap c : Nat) (n d : Int) (s : ByteArray) (w : World) (hV : Vars w) (b1 b2 : Bool)
    (g1 : decide ((100 : Int) < (s.size : Int)) = b1) (g2 : decide ((40 : Int) < (l.length : Int)) = b2) (hb : (b1 || b2) = true) :
    Calls Tryd.prog 10 #[.agg #[.int .i64 n, .int .i64 d], .string s, .slice p l.length cap, .int .u8 c] w (Yes w) := by
  cases b1 <;> cases b2
  all_goals first | (exfalso; revert hb; decide) | skip
  all_goals clear hb
  all_goals go_enter Tryd.func10, Tryd.ntmps10
  all_goals go_wp2_with (go_at_call 11; refine (awake_any _ (hV.1.on (al1 _ _))).mono ?_; rintro e w0 ⟨rfl, hb⟩; have E := (env_one w n d).on hb; have EB := E.1; have C := E.cells; simp only [BC] at C; clear hb)
  all_goals go_ret
  all_goals exact ⟨rfl, E.1⟩
end Go.Proofs.YtbbbmlnggehcdaaDoor
namespace Go.Proofs.YtbbbmlnggehcdaaDoor
open Go.ChangeShapes Go.WideShapes Go.ChangeAt Go.RowKit Go.Shelf
set_option linter.unusedVariables false
set_option linter.unusedSimpArgs false

theorem textL_size {n d : Int} (v : V n d) : (textL n d).length ≤ 1000 := by
  obtain ⟨⟨n1, n2⟩, ⟨d1, d2⟩⟩ := V_b v
  have l1 := itoa_len n n1 n2
  have l2 := itoa_len d d1 d2
  unfold textL
  split
  · omega
  · simp; omega
theorem sumR_b {l : List (Int × Int)} {a b : Int} (h : sumR l = (a, b, 0)) : V a b := by
  obtain ⟨hv, -, e⟩ := sumR_ok h
  exact (sumF_val hv e).1
theorem all4_of {l m : List (Int × Int)} {a b c d : Int} (h : sumR l = (a, b, 0)) (k : sumR m = (c, d, 0)) : All4 a b c d :=
  ⟨(V_b (sumR_b h)).1, (V_b (sumR_b h)).2, (V_b (sumR_b k)).1, (V_b (sumR_b k)).2⟩
end Go.Proofs.YtbbbmlnggehcdaaDoor
namespace Go.Proofs.YtbbbmlnggehcdaaDoor
open Go.ChangeShapes Go.WideShapes Go.ChangeAt Go.RowKit Go.Shelf
set_option linter.unusedVariables false
set_option linter.unusedSimpArgs false

set_option maxRecDepth 100000 in
set_option maxHeartbeats 8000000 in
theorem read_0bad (a : Addr) (l : List (Int × Int)) (cap c k : Nat) (n d : Int) (s : ByteArray) (w : World) (hV : Vars w) (hS : Sl w (some a) l) (hcap : l.length ≤ cap) (hl : l.length ≤ 1000) (hc : c < 256) (hk : k = c % (l.length + 1)) (i1 : I64 n) (i2 : I64 d)
    (g1 : decide ((100 : Int) < (s.size : Int)) = false) (g2 : decide ((40 : Int) < (l.length : Int)) = false) (hs : s.size ≤ 1000) (r0 : parseR s.data.toList = (0, 0, 7)) (hv : vB n d = false) :
    Calls Tryd.prog 10 #[.agg #[.int .i64 n, .int .i64 d], .string s, .slice (some a) l.length cap, .int .u8 c] w (Yes w) := by
  have hP := fun W (h : Vars W) => parse_any s W hs h r0
  have hT := fun W (h : Vars W) => text_bad n d W i1.1 i1.2 i2.1 i2.2 hv
  have hVa := fun W => valid_any n d W i1.1 i1.2 i2.1 i2.2
  rw [hv] at hVa
  clear r0
  go_enter Tryd.func10, Tryd.ntmps10
  go_wp2_with (first | (go_at_call 11; refine (awake_any _ (hV.1.on (al1 _ _))).mono ?_; rintro e w0 ⟨rfl, hb⟩; have E := (env_one w n d).on hb; have EB := E.1; have C := E.cells; simp only [BC] at C; clear hb) | (go_at_call 36; (first | (with_reducible refine (hP _ (hV.on EB)).mono ?_) | (with_reducible refine (hP _ (hV.on (belows EB (al1 _ _)))).mono ?_)); rintro e wA ⟨rfl, hb⟩; (first | (replace E := (E.add _ _).on hb) | (replace E := E.on hb)); replace EB := E.1; replace C := E.cells; simp only [BC] at C; clear hb) | (go_at_call 34; (first | (with_reducible refine (hT _ (hV.on EB)).mono ?_) | (with_reducible refine (hT _ (hV.on (belows EB (al1 _ _)))).mono ?_)); rintro e wA ⟨rfl, hb⟩; (first | (replace E := (E.add _ _).on hb) | (replace E := E.on hb)); replace EB := E.1; replace C := E.cells; simp only [BC] at C; clear hb) | (go_at_call 17; (with_reducible refine (hVa _).mono ?_); rintro e wA ⟨rfl, hb⟩; (first | (replace E := (E.add _ _).on hb) | (replace E := E.on hb)); replace EB := E.1; replace C := E.cells; simp only [BC] at C; clear hb))
  all_goals go_ret
  all_goals first | refine ⟨?_, E.1⟩ | refine ⟨?_, belows E.1 (al1 _ _)⟩
  all_goals first | rfl | simp
set_option maxRecDepth 100000 in
set_option maxHeartbeats 8000000 in
theorem read_0err (a : Addr) (l : List (Int × Int)) (cap c k : Nat) (e0 f1 f2 f3 : Int) (n d : Int) (s : ByteArray) (w : World) (hV : Vars w) (hS : Sl w (some a) l) (hcap : l.length ≤ cap) (hl : l.length ≤ 1000) (hc : c < 256) (hk : k = c % (l.length + 1)) (i1 : I64 n) (i2 : I64 d)
    (g1 : decide ((100 : Int) < (s.size : Int)) = false) (g2 : decide ((40 : Int) < (l.length : Int)) = false) (hs : s.size ≤ 1000) (r0 : parseR s.data.toList = (0, 0, 7)) (va : V n d) (r1 : sumR l = (0, 0, e0)) (he : e0 ≠ 0) (r2 : sumR (l.take k) = (f1, f2, f3)) :
    Calls Tryd.prog 10 #[.agg #[.int .i64 n, .int .i64 d], .string s, .slice (some a) l.length cap, .int .u8 c] w (Yes w) := by
  have hP := fun W (h : Vars W) => parse_any s W hs h r0
  have hT := fun W (h : Vars W) => text_ok n d W va h.1
  obtain ⟨ta, hta⟩ : ∃ ta : ByteArray, ta = ⟨(textL n d).toArray⟩ := ⟨_, rfl⟩
  have hPa := fun W (h : Vars W) => parse_any ta W (by rw [hta, b_size]; exact textL_size va) h (show parseR ta.data.toList = (n, d, 0) by rw [hta]; exact parse_text va)
  rw [← hta] at hT
  clear hta
  have he' : (e0 == 0) = false := by simpa using he
  have hL := fun W (h : Sl W (some a) l) => sum_any (some a) l cap W h r1
  have hkl : k ≤ l.length := by have := Nat.mod_lt c (show 0 < l.length + 1 by omega); omega
  have hF : ∀ W, Sl W (some a) l → Calls Tryd.prog 31 #[.slice (some a) k cap] W (fun e w' => e = .returned (.tuple #[.agg #[.int .i64 f1, .int .i64 f2], .int .i64 f3]) ∧ Below W.heap.size W w') := fun W h => by
    have := sum_any (some a) (l.take k) cap W (h.take k) r2
    rwa [List.length_take, Nat.min_eq_left hkl] at this
  have W0 : IntKind.i64.wrap (c : Int) = (c : Int) := IntWalk.i64_in _ (by omega)
  have W1 : IntKind.i64.wrap ((l.length : Int) + 1) = ((l.length + 1 : Nat) : Int) := by rw [IntWalk.i64_in _ (by omega)]; omega
  have W2 : (c : Int) % ((l.length : Int) + 1) = (k : Int) := by rw [show (c : Int) % ((l.length : Int) + 1) = ((c % (l.length + 1) : Nat) : Int) by simp, ← hk]
  have Z0 : (((l.length + 1 : Nat) : Int) == 0) = false := by simp; omega
  have B1 : (0 : Int) ≤ (k : Int) := by omega
  have B2 : (k : Int) ≤ (l.length : Int) := by omega
  have B3 : (k : Int) ≤ (cap : Int) := by omega
  have B4 : (l.length : Int) ≤ (cap : Int) := by omega
  have HK := Lib.hid hk
  clear hk
  clear r0 r1 r2
  go_enter Tryd.func10, Tryd.ntmps10
  go_wp2_with (first | (go_at_call 11; refine (awake_any _ (hV.1.on (al1 _ _))).mono ?_; rintro e w0 ⟨rfl, hb⟩; have E := (env_one w n d).on hb; have EB := E.1; have C := E.cells; simp only [BC] at C; clear hb) | (go_at_call 36; (first | (with_reducible refine (hP _ (hV.on EB)).mono ?_) | (with_reducible refine (hP _ (hV.on (belows EB (al1 _ _)))).mono ?_)); rintro e wA ⟨rfl, hb⟩; (first | (replace E := (E.add _ _).on hb) | (replace E := E.on hb)); replace EB := E.1; replace C := E.cells; simp only [BC] at C; clear hb) | (go_at_call 34; (first | (with_reducible refine (hT _ (hV.on EB)).mono ?_) | (with_reducible refine (hT _ (hV.on (belows EB (al1 _ _)))).mono ?_)); rintro e wA ⟨rfl, hb⟩; (first | (replace E := (E.add _ _).on hb) | (replace E := E.on hb)); replace EB := E.1; replace C := E.cells; simp only [BC] at C; clear hb) | (go_at_call 36; (first | (with_reducible refine (hPa _ (hV.on EB)).mono ?_) | (with_reducible refine (hPa _ (hV.on (belows EB (al1 _ _)))).mono ?_)); rintro e wA ⟨rfl, hb⟩; (first | (replace E := (E.add _ _).on hb) | (replace E := E.on hb)); replace EB := E.1; replace C := E.cells; simp only [BC] at C; clear hb) | (go_at_call 31; (first | (with_reducible refine (hL _ (hS.on EB)).mono ?_) | (with_reducible refine (hL _ (hS.on (belows EB (al1 _ _)))).mono ?_)); rintro e wA ⟨rfl, hb⟩; (first | (replace E := (E.add _ _).on hb) | (replace E := E.on hb)); replace EB := E.1; replace C := E.cells; simp only [BC] at C; clear hb) | (go_at_call 31; (first | (with_reducible refine (hF _ (hS.on EB)).mono ?_) | (with_reducible refine (hF _ (hS.on (belows EB (al1 _ _)))).mono ?_)); rintro e wA ⟨rfl, hb⟩; (first | (replace E := (E.add _ _).on hb) | (replace E := E.on hb)); replace EB := E.1; replace C := E.cells; simp only [BC] at C; clear hb))
  all_goals go_ret
  all_goals first | refine ⟨?_, E.1⟩ | refine ⟨?_, belows E.1 (al1 _ _)⟩
  all_goals first | rfl | simp
set_option maxRecDepth 100000 in
set_option maxHeartbeats 8000000 in
theorem read_0drop (a : Addr) (l : List (Int × Int)) (cap c k : Nat) (x q e0 : Int) (f1 f2 : Int) (e3 : Int) (n d : Int) (s : ByteArray) (w : World) (hV : Vars w) (hS : Sl w (some a) l) (hcap : l.length ≤ cap) (hl : l.length ≤ 1000) (hc : c < 256) (hk : k = c % (l.length + 1)) (i1 : I64 n) (i2 : I64 d)
    (g1 : decide ((100 : Int) < (s.size : Int)) = false) (g2 : decide ((40 : Int) < (l.length : Int)) = false) (hs : s.size ≤ 1000) (r0 : parseR s.data.toList = (0, 0, 7)) (va : V n d) (r1 : sumR l = (x, q, 0)) (r2 : sumR (l.take k) = (f1, f2, 0)) (r3 : sumR (l.drop k) = (0, 0, e3)) (he3 : e3 ≠ 0) :
    Calls Tryd.prog 10 #[.agg #[.int .i64 n, .int .i64 d], .string s, .slice (some a) l.length cap, .int .u8 c] w (Yes w) := by
  have hP := fun W (h : Vars W) => parse_any s W hs h r0
  have hT := fun W (h : Vars W) => text_ok n d W va h.1
  obtain ⟨ta, hta⟩ : ∃ ta : ByteArray, ta = ⟨(textL n d).toArray⟩ := ⟨_, rfl⟩
  have hPa := fun W (h : Vars W) => parse_any ta W (by rw [hta, b_size]; exact textL_size va) h (show parseR ta.data.toList = (n, d, 0) by rw [hta]; exact parse_text va)
  rw [← hta] at hT
  clear hta
  have hL := fun W (h : Sl W (some a) l) => sum_any (some a) l cap W h r1
  have hkl : k ≤ l.length := by have := Nat.mod_lt c (show 0 < l.length + 1 by omega); omega
  have hF : ∀ W, Sl W (some a) l → Calls Tryd.prog 31 #[.slice (some a) k cap] W (fun e w' => e = .returned (.tuple #[.agg #[.int .i64 f1, .int .i64 f2], .int .i64 0]) ∧ Below W.heap.size W w') := fun W h => by
    have := sum_any (some a) (l.take k) cap W (h.take k) r2
    rwa [List.length_take, Nat.min_eq_left hkl] at this
  have he3' : (e3 == 0) = false := by simpa using he3
  have hD : ∀ W, Sl W (some a) l → Calls Tryd.prog 31 #[.slice (if cap = k then some a else some (a.add (k * 2))) (l.length - k) (cap - k)] W (fun e w' => e = .returned (.tuple #[.agg #[.int .i64 0, .int .i64 0], .int .i64 e3]) ∧ Below W.heap.size W w') := fun W h => by
    have ed : (l.drop k).length = l.length - k := List.length_drop
    split
    · have e0 : l.drop k = [] := List.drop_of_length_le (by omega)
      have := sum_any (some a) (l.drop k) (cap - k) W (by rw [e0]; exact Sl.nil W _) r3
      rwa [ed] at this
    · have := sum_any (some (a.add (k * 2))) (l.drop k) (cap - k) W (h.drop k) r3
      rwa [ed] at this
  have W0 : IntKind.i64.wrap (c : Int) = (c : Int) := IntWalk.i64_in _ (by omega)
  have W1 : IntKind.i64.wrap ((l.length : Int) + 1) = ((l.length + 1 : Nat) : Int) := by rw [IntWalk.i64_in _ (by omega)]; omega
  have W2 : (c : Int) % ((l.length : Int) + 1) = (k : Int) := by rw [show (c : Int) % ((l.length : Int) + 1) = ((c % (l.length + 1) : Nat) : Int) by simp, ← hk]
  have Z0 : (((l.length + 1 : Nat) : Int) == 0) = false := by simp; omega
  have B1 : (0 : Int) ≤ (k : Int) := by omega
  have B2 : (k : Int) ≤ (l.length : Int) := by omega
  have B3 : (k : Int) ≤ (cap : Int) := by omega
  have B4 : (l.length : Int) ≤ (cap : Int) := by omega
  have HK := Lib.hid hk
  clear hk
  clear r0 r1 r2 r3
  go_enter Tryd.func10, Tryd.ntmps10
  go_wp2_with (first | (go_at_call 11; refine (awake_any _ (hV.1.on (al1 _ _))).mono ?_; rintro e w0 ⟨rfl, hb⟩; have E := (env_one w n d).on hb; have EB := E.1; have C := E.cells; simp only [BC] at C; clear hb) | (go_at_call 36; (first | (with_reducible refine (hP _ (hV.on EB)).mono ?_) | (with_reducible refine (hP _ (hV.on (belows EB (al1 _ _)))).mono ?_)); rintro e wA ⟨rfl, hb⟩; (first | (replace E := (E.add _ _).on hb) | (replace E := E.on hb)); replace EB := E.1; replace C := E.cells; simp only [BC] at C; clear hb) | (go_at_call 34; (first | (with_reducible refine (hT _ (hV.on EB)).mono ?_) | (with_reducible refine (hT _ (hV.on (belows EB (al1 _ _)))).mono ?_)); rintro e wA ⟨rfl, hb⟩; (first | (replace E := (E.add _ _).on hb) | (replace E := E.on hb)); replace EB := E.1; replace C := E.cells; simp only [BC] at C; clear hb) | (go_at_call 36; (first | (with_reducible refine (hPa _ (hV.on EB)).mono ?_) | (with_reducible refine (hPa _ (hV.on (belows EB (al1 _ _)))).mono ?_)); rintro e wA ⟨rfl, hb⟩; (first | (replace E := (E.add _ _).on hb) | (replace E := E.on hb)); replace EB := E.1; replace C := E.cells; simp only [BC] at C; clear hb) | (go_at_call 31; (first | (with_reducible refine (hL _ (hS.on EB)).mono ?_) | (with_reducible refine (hL _ (hS.on (belows EB (al1 _ _)))).mono ?_)); rintro e wA ⟨rfl, hb⟩; (first | (replace E := (E.add _ _).on hb) | (replace E := E.on hb)); replace EB := E.1; replace C := E.cells; simp only [BC] at C; clear hb) | (go_at_call 31; (first | (with_reducible refine (hF _ (hS.on EB)).mono ?_) | (with_reducible refine (hF _ (hS.on (belows EB (al1 _ _)))).mono ?_)); rintro e wA ⟨rfl, hb⟩; (first | (replace E := (E.add _ _).on hb) | (replace E := E.on hb)); replace EB := E.1; replace C := E.cells; simp only [BC] at C; clear hb) | (go_at_call 31; (first | (with_reducible refine (hD _ (hS.on EB)).mono ?_) | (with_reducible refine (hD _ (hS.on (belows EB (al1 _ _)))).mono ?_)); rintro e wA ⟨rfl, hb⟩; (first | (replace E := (E.add _ _).on hb) | (replace E := E.on hb)); replace EB := E.1; replace C := E.cells; simp only [BC] at C; clear hb))
  all_goals go_ret
  all_goals first | refine ⟨?_, E.1⟩ | refine ⟨?_, belows E.1 (al1 _ _)⟩
  all_goals first | rfl | simp
set_option maxRecDepth 100000 in
set_option maxHeartbeats 8000000 in
theorem read_0ok (a : Addr) (l : List (Int × Int)) (cap c k : Nat) (x q e0 : Int) (f1 f2 : Int) (h1 h2 : Int) (n d : Int) (s : ByteArray) (w : World) (hV : Vars w) (hS : Sl w (some a) l) (hcap : l.length ≤ cap) (hl : l.length ≤ 1000) (hc : c < 256) (hk : k = c % (l.length + 1)) (i1 : I64 n) (i2 : I64 d)
    (g1 : decide ((100 : Int) < (s.size : Int)) = false) (g2 : decide ((40 : Int) < (l.length : Int)) = false) (hs : s.size ≤ 1000) (r0 : parseR s.data.toList = (0, 0, 7)) (va : V n d) (r1 : sumR l = (x, q, 0)) (r2 : sumR (l.take k) = (f1, f2, 0)) (r3 : sumR (l.drop k) = (h1, h2, 0)) (ra : addR f1 f2 h1 h2 = (x, q, 0)) (r4 : sumR l.reverse = (x, q, 0)) :
    Calls Tryd.prog 10 #[.agg #[.int .i64 n, .int .i64 d], .string s, .slice (some a) l.length cap, .int .u8 c] w (Yes w) := by
  have hP := fun W (h : Vars W) => parse_any s W hs h r0
  have hT := fun W (h : Vars W) => text_ok n d W va h.1
  obtain ⟨ta, hta⟩ : ∃ ta : ByteArray, ta = ⟨(textL n d).toArray⟩ := ⟨_, rfl⟩
  have hPa := fun W (h : Vars W) => parse_any ta W (by rw [hta, b_size]; exact textL_size va) h (show parseR ta.data.toList = (n, d, 0) by rw [hta]; exact parse_text va)
  rw [← hta] at hT
  clear hta
  have hL := fun W (h : Sl W (some a) l) => sum_any (some a) l cap W h r1
  have hkl : k ≤ l.length := by have := Nat.mod_lt c (show 0 < l.length + 1 by omega); omega
  have hF : ∀ W, Sl W (some a) l → Calls Tryd.prog 31 #[.slice (some a) k cap] W (fun e w' => e = .returned (.tuple #[.agg #[.int .i64 f1, .int .i64 f2], .int .i64 0]) ∧ Below W.heap.size W w') := fun W h => by
    have := sum_any (some a) (l.take k) cap W (h.take k) r2
    rwa [List.length_take, Nat.min_eq_left hkl] at this
  have hD : ∀ W, Sl W (some a) l → Calls Tryd.prog 31 #[.slice (if cap = k then some a else some (a.add (k * 2))) (l.length - k) (cap - k)] W (fun e w' => e = .returned (.tuple #[.agg #[.int .i64 h1, .int .i64 h2], .int .i64 0]) ∧ Below W.heap.size W w') := fun W h => by
    have ed : (l.drop k).length = l.length - k := List.length_drop
    split
    · have e0 : l.drop k = [] := List.drop_of_length_le (by omega)
      have := sum_any (some a) (l.drop k) (cap - k) W (by rw [e0]; exact Sl.nil W _) r3
      rwa [ed] at this
    · have := sum_any (some (a.add (k * 2))) (l.drop k) (cap - k) W (h.drop k) r3
      rwa [ed] at this
  have hA := fun W => add_any f1 f2 h1 h2 W (all4_of r2 r3) ra
  have hC := fun W (h : Sl W (some a) l) => clone_any (some a) l cap W h hl
  have hmr : l.reverse.length ≤ maxLen := by rw [List.length_reverse]; exact hS.2.2.1
  have hIr : ∀ x ∈ l.reverse, I64 x.1 ∧ I64 x.2 := fun x hx => hS.2.2.2 x (List.mem_reverse.1 hx)
  have hR : ∀ W q9 c9, Sl W q9 l.reverse → Calls Tryd.prog 31 #[.slice q9 l.length c9] W (fun e w' => e = .returned (.tuple #[.agg #[.int .i64 x, .int .i64 q], .int .i64 0]) ∧ Below W.heap.size W w') := fun W q9 c9 h => by
    have := sum_any q9 l.reverse c9 W h r4
    rwa [List.length_reverse] at this
  have W0 : IntKind.i64.wrap (c : Int) = (c : Int) := IntWalk.i64_in _ (by omega)
  have W1 : IntKind.i64.wrap ((l.length : Int) + 1) = ((l.length + 1 : Nat) : Int) := by rw [IntWalk.i64_in _ (by omega)]; omega
  have W2 : (c : Int) % ((l.length : Int) + 1) = (k : Int) := by rw [show (c : Int) % ((l.length : Int) + 1) = ((c % (l.length + 1) : Nat) : Int) by simp, ← hk]
  have Z0 : (((l.length + 1 : Nat) : Int) == 0) = false := by simp; omega
  have B1 : (0 : Int) ≤ (k : Int) := by omega
  have B2 : (k : Int) ≤ (l.length : Int) := by omega
  have B3 : (k : Int) ≤ (cap : Int) := by omega
  have B4 : (l.length : Int) ≤ (cap : Int) := by omega
  have HK := Lib.hid hk
  clear hk
  clear r0 r1 r2 r3 ra r4
  go_enter Tryd.func10, Tryd.ntmps10
  go_wp2_with (first | (go_at_call 11; refine (awake_any _ (hV.1.on (al1 _ _))).mono ?_; rintro e w0 ⟨rfl, hb⟩; have E := (env_one w n d).on hb; have EB := E.1; have C := E.cells; simp only [BC] at C; clear hb) | (go_at_call 36; (first | (with_reducible refine (hP _ (hV.on EB)).mono ?_) | (with_reducible refine (hP _ (hV.on (belows EB (al1 _ _)))).mono ?_)); rintro e wA ⟨rfl, hb⟩; (first | (replace E := (E.add _ _).on hb) | (replace E := E.on hb)); replace EB := E.1; replace C := E.cells; simp only [BC] at C; clear hb) | (go_at_call 34; (first | (with_reducible refine (hT _ (hV.on EB)).mono ?_) | (with_reducible refine (hT _ (hV.on (belows EB (al1 _ _)))).mono ?_)); rintro e wA ⟨rfl, hb⟩; (first | (replace E := (E.add _ _).on hb) | (replace E := E.on hb)); replace EB := E.1; replace C := E.cells; simp only [BC] at C; clear hb) | (go_at_call 36; (first | (with_reducible refine (hPa _ (hV.on EB)).mono ?_) | (with_reducible refine (hPa _ (hV.on (belows EB (al1 _ _)))).mono ?_)); rintro e wA ⟨rfl, hb⟩; (first | (replace E := (E.add _ _).on hb) | (replace E := E.on hb)); replace EB := E.1; replace C := E.cells; simp only [BC] at C; clear hb) | (go_at_call 31; (first | (with_reducible refine (hL _ (hS.on EB)).mono ?_) | (with_reducible refine (hL _ (hS.on (belows EB (al1 _ _)))).mono ?_)); rintro e wA ⟨rfl, hb⟩; (first | (replace E := (E.add _ _).on hb) | (replace E := E.on hb)); replace EB := E.1; replace C := E.cells; simp only [BC] at C; clear hb) | (go_at_call 31; (first | (with_reducible refine (hF _ (hS.on EB)).mono ?_) | (with_reducible refine (hF _ (hS.on (belows EB (al1 _ _)))).mono ?_)); rintro e wA ⟨rfl, hb⟩; (first | (replace E := (E.add _ _).on hb) | (replace E := E.on hb)); replace EB := E.1; replace C := E.cells; simp only [BC] at C; clear hb) | (go_at_call 31; (first | (with_reducible refine (hD _ (hS.on EB)).mono ?_) | (with_reducible refine (hD _ (hS.on (belows EB (al1 _ _)))).mono ?_)); rintro e wA ⟨rfl, hb⟩; (first | (replace E := (E.add _ _).on hb) | (replace E := E.on hb)); replace EB := E.1; replace C := E.cells; simp only [BC] at C; clear hb) | (go_at_call 21; (with_reducible refine (hA _).mono ?_); rintro e wA ⟨rfl, hb⟩; (first | (replace E := (E.add _ _).on hb) | (replace E := E.on hb)); replace EB := E.1; replace C := E.cells; simp only [BC] at C; clear hb) | (go_at_call 38; (first | (with_reducible refine (hC _ (hS.on EB)).mono ?_) | (with_reducible refine (hC _ (hS.on (belows EB (al1 _ _)))).mono ?_)); rintro e wC ⟨q9, c9, rfl, hO, hbC⟩) | (go_at_call 39; (with_reducible refine (reverse_any _ q9 l c9 _ hO hl).mono ?_); rintro e wR ⟨rfl, hO2, hb2⟩; have hb := hbC.trans hb2; have hSr := hO2.sl hmr hIr; clear hO hO2 hbC hb2; (first | (replace E := (E.add _ _).on hb) | (replace E := E.on hb)); replace EB := E.1; replace C := E.cells; simp only [BC] at C; clear hb) | (go_at_call 31; (with_reducible refine (hR _ q9 c9 hSr).mono ?_); rintro e wA ⟨rfl, hb⟩; (first | (replace E := (E.add _ _).on hb) | (replace E := E.on hb)); replace EB := E.1; replace C := E.cells; simp only [BC] at C; clear hb))
  all_goals go_ret
  all_goals first | refine ⟨?_, E.1⟩ | refine ⟨?_, belows E.1 (al1 _ _)⟩
  all_goals first | rfl | simp
set_option maxRecDepth 100000 in
set_option maxHeartbeats 8000000 in
theorem read_0big (a : Addr) (l : List (Int × Int)) (cap c k : Nat) (x q e0 : Int) (f1 f2 : Int) (h1 h2 : Int) (n d : Int) (s : ByteArray) (w : World) (hV : Vars w) (hS : Sl w (some a) l) (hcap : l.length ≤ cap) (hl : l.length ≤ 1000) (hc : c < 256) (hk : k = c % (l.length + 1)) (i1 : I64 n) (i2 : I64 d)
    (g1 : decide ((100 : Int) < (s.size : Int)) = false) (g2 : decide ((40 : Int) < (l.length : Int)) = false) (hs : s.size ≤ 1000) (r0 : parseR s.data.toList = (0, 0, 7)) (va : V n d) (r1 : sumR l = (x, q, 0)) (r2 : sumR (l.take k) = (f1, f2, 0)) (r3 : sumR (l.drop k) = (h1, h2, 0)) (ra : addR f1 f2 h1 h2 = (x, q, 0)) (r4 : sumR l.reverse = (0, 0, 5)) :
    Calls Tryd.prog 10 #[.agg #[.int .i64 n, .int .i64 d], .string s, .slice (some a) l.length cap, .int .u8 c] w (Yes w) := by
  have hP := fun W (h : Vars W) => parse_any s W hs h r0
  have hT := fun W (h : Vars W) => text_ok n d W va h.1
  obtain ⟨ta, hta⟩ : ∃ ta : ByteArray, ta = ⟨(textL n d).toArray⟩ := ⟨_, rfl⟩
  have hPa := fun W (h : Vars W) => parse_any ta W (by rw [hta, b_size]; exact textL_size va) h (show parseR ta.data.toList = (n, d, 0) by rw [hta]; exact parse_text va)
  rw [← hta] at hT
  clear hta
  have hL := fun W (h : Sl W (some a) l) => sum_any (some a) l cap W h r1
  have hkl : k ≤ l.length := by have := Nat.mod_lt c (show 0 < l.length + 1 by omega); omega
  have hF : ∀ W, Sl W (some a) l → Calls Tryd.prog 31 #[.slice (some a) k cap] W (fun e w' => e = .returned (.tuple #[.agg #[.int .i64 f1, .int .i64 f2], .int .i64 0]) ∧ Below W.heap.size W w') := fun W h => by
    have := sum_any (some a) (l.take k) cap W (h.take k) r2
    rwa [List.length_take, Nat.min_eq_left hkl] at this
  have hD : ∀ W, Sl W (some a) l → Calls Tryd.prog 31 #[.slice (if cap = k then some a else some (a.add (k * 2))) (l.length - k) (cap - k)] W (fun e w' => e = .returned (.tuple #[.agg #[.int .i64 h1, .int .i64 h2], .int .i64 0]) ∧ Below W.heap.size W w') := fun W h => by
    have ed : (l.drop k).length = l.length - k := List.length_drop
    split
    · have e0 : l.drop k = [] := List.drop_of_length_le (by omega)
      have := sum_any (some a) (l.drop k) (cap - k) W (by rw [e0]; exact Sl.nil W _) r3
      rwa [ed] at this
    · have := sum_any (some (a.add (k * 2))) (l.drop k) (cap - k) W (h.drop k) r3
      rwa [ed] at this
  have hA := fun W => add_any f1 f2 h1 h2 W (all4_of r2 r3) ra
  have hC := fun W (h : Sl W (some a) l) => clone_any (some a) l cap W h hl
  have hmr : l.reverse.length ≤ maxLen := by rw [List.length_reverse]; exact hS.2.2.1
  have hIr : ∀ x ∈ l.reverse, I64 x.1 ∧ I64 x.2 := fun x hx => hS.2.2.2 x (List.mem_reverse.1 hx)
  have hR : ∀ W q9 c9, Sl W q9 l.reverse → Calls Tryd.prog 31 #[.slice q9 l.length c9] W (fun e w' => e = .returned (.tuple #[.agg #[.int .i64 0, .int .i64 0], .int .i64 5]) ∧ Below W.heap.size W w') := fun W q9 c9 h => by
    have := sum_any q9 l.reverse c9 W h r4
    rwa [List.length_reverse] at this
  have W0 : IntKind.i64.wrap (c : Int) = (c : Int) := IntWalk.i64_in _ (by omega)
  have W1 : IntKind.i64.wrap ((l.length : Int) + 1) = ((l.length + 1 : Nat) : Int) := by rw [IntWalk.i64_in _ (by omega)]; omega
  have W2 : (c : Int) % ((l.length : Int) + 1) = (k : Int) := by rw [show (c : Int) % ((l.length : Int) + 1) = ((c % (l.length + 1) : Nat) : Int) by simp, ← hk]
  have Z0 : (((l.length + 1 : Nat) : Int) == 0) = false := by simp; omega
  have B1 : (0 : Int) ≤ (k : Int) := by omega
  have B2 : (k : Int) ≤ (l.length : Int) := by omega
  have B3 : (k : Int) ≤ (cap : Int) := by omega
  have B4 : (l.length : Int) ≤ (cap : Int) := by omega
  have HK := Lib.hid hk
  clear hk
  clear r0 r1 r2 r3 ra r4
  go_enter Tryd.func10, Tryd.ntmps10
  go_wp2_with (first | (go_at_call 11; refine (awake_any _ (hV.1.on (al1 _ _))).mono ?_; rintro e w0 ⟨rfl, hb⟩; have E := (env_one w n d).on hb; have EB := E.1; have C := E.cells; simp only [BC] at C; clear hb) | (go_at_call 36; (first | (with_reducible refine (hP _ (hV.on EB)).mono ?_) | (with_reducible refine (hP _ (hV.on (belows EB (al1 _ _)))).mono ?_)); rintro e wA ⟨rfl, hb⟩; (first | (replace E := (E.add _ _).on hb) | (replace E := E.on hb)); replace EB := E.1; replace C := E.cells; simp only [BC] at C; clear hb) | (go_at_call 34; (first | (with_reducible refine (hT _ (hV.on EB)).mono ?_) | (with_reducible refine (hT _ (hV.on (belows EB (al1 _ _)))).mono ?_)); rintro e wA ⟨rfl, hb⟩; (first | (replace E := (E.add _ _).on hb) | (replace E := E.on hb)); replace EB := E.1; replace C := E.cells; simp only [BC] at C; clear hb) | (go_at_call 36; (first | (with_reducible refine (hPa _ (hV.on EB)).mono ?_) | (with_reducible refine (hPa _ (hV.on (belows EB (al1 _ _)))).mono ?_)); rintro e wA ⟨rfl, hb⟩; (first | (replace E := (E.add _ _).on hb) | (replace E := E.on hb)); replace EB := E.1; replace C := E.cells; simp only [BC] at C; clear hb) | (go_at_call 31; (first | (with_reducible refine (hL _ (hS.on EB)).mono ?_) | (with_reducible refine (hL _ (hS.on (belows EB (al1 _ _)))).mono ?_)); rintro e wA ⟨rfl, hb⟩; (first | (replace E := (E.add _ _).on hb) | (replace E := E.on hb)); replace EB := E.1; replace C := E.cells; simp only [BC] at C; clear hb) | (go_at_call 31; (first | (with_reducible refine (hF _ (hS.on EB)).mono ?_) | (with_reducible refine (hF _ (hS.on (belows EB (al1 _ _)))).mono ?_)); rintro e wA ⟨rfl, hb⟩; (first | (replace E := (E.add _ _).on hb) | (replace E := E.on hb)); replace EB := E.1; replace C := E.cells; simp only [BC] at C; clear hb) | (go_at_call 31; (first | (with_reducible refine (hD _ (hS.on EB)).mono ?_) | (with_reducible refine (hD _ (hS.on (belows EB (al1 _ _)))).mono ?_)); rintro e wA ⟨rfl, hb⟩; (first | (replace E := (E.add _ _).on hb) | (replace E := E.on hb)); replace EB := E.1; replace C := E.cells; simp only [BC] at C; clear hb) | (go_at_call 21; (with_reducible refine (hA _).mono ?_); rintro e wA ⟨rfl, hb⟩; (first | (replace E := (E.add _ _).on hb) | (replace E := E.on hb)); replace EB := E.1; replace C := E.cells; simp only [BC] at C; clear hb) | (go_at_call 38; (first | (with_reducible refine (hC _ (hS.on EB)).mono ?_) | (with_reducible refine (hC _ (hS.on (belows EB (al1 _ _)))).mono ?_)); rintro e wC ⟨q9, c9, rfl, hO, hbC⟩) | (go_at_call 39; (with_reducible refine (reverse_any _ q9 l c9 _ hO hl).mono ?_); rintro e wR ⟨rfl, hO2, hb2⟩; have hb := hbC.trans hb2; have hSr := hO2.sl hmr hIr; clear hO hO2 hbC hb2; (first | (replace E := (E.add _ _).on hb) | (replace E := E.on hb)); replace EB := E.1; replace C := E.cells; simp only [BC] at C; clear hb) | (go_at_call 31; (with_reducible refine (hR _ q9 c9 hSr).mono ?_); rintro e wA ⟨rfl, hb⟩; (first | (replace E := (E.add _ _).on hb) | (replace E := E.on hb)); replace EB := E.1; replace C := E.cells; simp only [BC] at C; clear hb))
  all_goals go_ret
  all_goals first | refine ⟨?_, E.1⟩ | refine ⟨?_, belows E.1 (al1 _ _)⟩
  all_goals first | rfl | simp
set_option maxRecDepth 100000 in
set_option maxHeartbeats 8000000 in
theorem read_0badn (l : List (Int × Int)) (cap c k : Nat) (n d : Int) (s : ByteArray) (w : World) (hV : Vars w) (hS : Sl w none l) (hcap : l.length ≤ cap) (hl : l.length ≤ 1000) (hc : c < 256) (hk : k = c % (l.length + 1)) (i1 : I64 n) (i2 : I64 d)
    (g1 : decide ((100 : Int) < (s.size : Int)) = false) (g2 : decide ((40 : Int) < (l.length : Int)) = false) (hs : s.size ≤ 1000) (r0 : parseR s.data.toList = (0, 0, 7)) (hv : vB n d = false) :
    Calls Tryd.prog 10 #[.agg #[.int .i64 n, .int .i64 d], .string s, .slice none l.length cap, .int .u8 c] w (Yes w) := by
  have hP := fun W (h : Vars W) => parse_any s W hs h r0
  have hT := fun W (h : Vars W) => text_bad n d W i1.1 i1.2 i2.1 i2.2 hv
  have hVa := fun W => valid_any n d W i1.1 i1.2 i2.1 i2.2
  rw [hv] at hVa
  clear r0
  go_enter Tryd.func10, Tryd.ntmps10
  go_wp2_with (first | (go_at_call 11; refine (awake_any _ (hV.1.on (al1 _ _))).mono ?_; rintro e w0 ⟨rfl, hb⟩; have E := (env_one w n d).on hb; have EB := E.1; have C := E.cells; simp only [BC] at C; clear hb) | (go_at_call 36; (first | (with_reducible refine (hP _ (hV.on EB)).mono ?_) | (with_reducible refine (hP _ (hV.on (belows EB (al1 _ _)))).mono ?_)); rintro e wA ⟨rfl, hb⟩; (first | (replace E := (E.add _ _).on hb) | (replace E := E.on hb)); replace EB := E.1; replace C := E.cells; simp only [BC] at C; clear hb) | (go_at_call 34; (first | (with_reducible refine (hT _ (hV.on EB)).mono ?_) | (with_reducible refine (hT _ (hV.on (belows EB (al1 _ _)))).mono ?_)); rintro e wA ⟨rfl, hb⟩; (first | (replace E := (E.add _ _).on hb) | (replace E := E.on hb)); replace EB := E.1; replace C := E.cells; simp only [BC] at C; clear hb) | (go_at_call 17; (with_reducible refine (hVa _).mono ?_); rintro e wA ⟨rfl, hb⟩; (first | (replace E := (E.add _ _).on hb) | (replace E := E.on hb)); replace EB := E.1; replace C := E.cells; simp only [BC] at C; clear hb))
  all_goals go_ret
  all_goals first | refine ⟨?_, E.1⟩ | refine ⟨?_, belows E.1 (al1 _ _)⟩
  all_goals first | rfl | simp
set_option maxRecDepth 100000 in
set_option maxHeartbeats 8000000 in
theorem read_0nil (cap c : Nat) (n d : Int) (s : ByteArray) (w : World) (hV : Vars w) (hc : c < 256) (i1 : I64 n) (i2 : I64 d) (g1 : decide ((100 : Int) < (s.size : Int)) = false) (hs : s.size ≤ 1000) (va : V n d) (r0 : parseR s.data.toList = (0, 0, 7)) :
    Calls Tryd.prog 10 #[.agg #[.int .i64 n, .int .i64 d], .string s, .slice none 0 cap, .int .u8 c] w (Yes w) := by
  have hP := fun W (h : Vars W) => parse_any s W hs h r0
  have hT := fun W (h : Vars W) => text_ok n d W va h.1
  obtain ⟨ta, hta⟩ : ∃ ta : ByteArray, ta = ⟨(textL n d).toArray⟩ := ⟨_, rfl⟩
  have hPa := fun W (h : Vars W) => parse_any ta W (by rw [hta, b_size]; exact textL_size va) h (show parseR ta.data.toList = (n, d, 0) by rw [hta]; exact parse_text va)
  rw [← hta] at hT
  clear hta
  have hL := fun W c9 => sum_any none [] c9 W (Sl.nil W none) (show sumR [] = (0, 1, 0) by decide)
  have hA := fun W => add_any 0 1 0 1 W (by unfold All4 I64; decide) (show addR 0 1 0 1 = (0, 1, 0) by decide)
  have hC := fun W c9 => clone_any none [] c9 W (Sl.nil W none) (by simp)
  have hR : ∀ W q9 c9, Calls Tryd.prog 31 #[.slice q9 0 c9] W (fun e w' => e = .returned (.tuple #[.agg #[.int .i64 0, .int .i64 1], .int .i64 0]) ∧ Below W.heap.size W w') := fun W q9 c9 => sum_any q9 [] c9 W (Sl.nil W q9) (by decide)
  have hRv : ∀ B W q9 c9, OwnF B W q9 [] → Calls Tryd.prog 39 #[.slice q9 0 c9] W (fun e w' => e = .returned (.tuple #[]) ∧ OwnF B w' q9 [] ∧ Below B W w') := fun B W q9 c9 h => reverse_any B q9 [] c9 W h (by simp)
  simp only [List.length_nil] at hL hC
  have W0 : IntKind.i64.wrap (c : Int) = (c : Int) := IntWalk.i64_in _ (by omega)
  clear r0
  go_enter Tryd.func10, Tryd.ntmps10
  go_wp2_with (first | (go_at_call 11; refine (awake_any _ (hV.1.on (al1 _ _))).mono ?_; rintro e w0 ⟨rfl, hb⟩; have E := (env_one w n d).on hb; have EB := E.1; have C := E.cells; simp only [BC] at C; clear hb) | (go_at_call 36; (first | (with_reducible refine (hP _ (hV.on EB)).mono ?_) | (with_reducible refine (hP _ (hV.on (belows EB (al1 _ _)))).mono ?_)); rintro e wA ⟨rfl, hb⟩; (first | (replace E := (E.add _ _).on hb) | (replace E := E.on hb)); replace EB := E.1; replace C := E.cells; simp only [BC] at C; clear hb) | (go_at_call 34; (first | (with_reducible refine (hT _ (hV.on EB)).mono ?_) | (with_reducible refine (hT _ (hV.on (belows EB (al1 _ _)))).mono ?_)); rintro e wA ⟨rfl, hb⟩; (first | (replace E := (E.add _ _).on hb) | (replace E := E.on hb)); replace EB := E.1; replace C := E.cells; simp only [BC] at C; clear hb) | (go_at_call 36; (first | (with_reducible refine (hPa _ (hV.on EB)).mono ?_) | (with_reducible refine (hPa _ (hV.on (belows EB (al1 _ _)))).mono ?_)); rintro e wA ⟨rfl, hb⟩; (first | (replace E := (E.add _ _).on hb) | (replace E := E.on hb)); replace EB := E.1; replace C := E.cells; simp only [BC] at C; clear hb) | (go_at_call 21; (with_reducible refine (hA _).mono ?_); rintro e wA ⟨rfl, hb⟩; (first | (replace E := (E.add _ _).on hb) | (replace E := E.on hb)); replace EB := E.1; replace C := E.cells; simp only [BC] at C; clear hb) | (go_at_call 38; (with_reducible refine (hC _ _).mono ?_); rintro e wC ⟨q9, c9, rfl, hO, hbC⟩) | (go_at_call 39; (with_reducible refine (hRv _ _ _ _ hO).mono ?_); rintro e wR ⟨rfl, hO2, hb2⟩; have hb := hbC.trans hb2; clear hO hO2 hbC hb2; (first | (replace E := (E.add _ _).on hb) | (replace E := E.on hb)); replace EB := E.1; replace C := E.cells; simp only [BC] at C; clear hb) | (go_at_call 31; (with_reducible refine (hR _ _ _).mono ?_); rintro e wA ⟨rfl, hb⟩; (first | (replace E := (E.add _ _).on hb) | (replace E := E.on hb)); replace EB := E.1; replace C := E.cells; simp only [BC] at C; clear hb))
  all_goals go_ret
  all_goals first | refine ⟨?_, E.1⟩ | refine ⟨?_, belows E.1 (al1 _ _)⟩
  all_goals first | rfl | simp
end Go.Proofs.YtbbbmlnggehcdaaDoor
namespace Go.Proofs.YtbbbmlnggehcdaaDoor
open Go.ChangeShapes Go.WideShapes Go.ChangeAt Go.RowKit Go.Shelf
set_option linter.unusedVariables false
set_option linter.unusedSimpArgs false

set_option maxRecDepth 100000 in
set_option maxHeartbeats 8000000 in
theorem read_1bad (a : Addr) (l : List (Int × Int)) (cap c k : Nat) (y z : Int) (n d : Int) (s : ByteArray) (w : World) (hV : Vars w) (hS : Sl w (some a) l) (hcap : l.length ≤ cap) (hl : l.length ≤ 1000) (hc : c < 256) (hk : k = c % (l.length + 1)) (i1 : I64 n) (i2 : I64 d)
    (g1 : decide ((100 : Int) < (s.size : Int)) = false) (g2 : decide ((40 : Int) < (l.length : Int)) = false) (hs : s.size ≤ 1000) (r0 : parseR s.data.toList = (y, z, 0)) (vy : V y z) (ty : s = ⟨(textL y z).toArray⟩) (hv : vB n d = false) :
    Calls Tryd.prog 10 #[.agg #[.int .i64 n, .int .i64 d], .string s, .slice (some a) l.length cap, .int .u8 c] w (Yes w) := by
  have hP := fun W (h : Vars W) => parse_any s W hs h r0
  have hTy := fun W (h : Vars W) => text_ok y z W vy h.1
  rw [← ty] at hTy
  have hVy := fun W => valid_any y z W (V_b vy).1.1 (V_b vy).1.2 (V_b vy).2.1 (V_b vy).2.2
  rw [vB_t.2 vy] at hVy
  have hT := fun W (h : Vars W) => text_bad n d W i1.1 i1.2 i2.1 i2.2 hv
  have hVa := fun W => valid_any n d W i1.1 i1.2 i2.1 i2.2
  rw [hv] at hVa
  clear r0 ty
  go_enter Tryd.func10, Tryd.ntmps10
  go_wp2_with (first | (go_at_call 11; refine (awake_any _ (hV.1.on (al1 _ _))).mono ?_; rintro e w0 ⟨rfl, hb⟩; have E := (env_one w n d).on hb; have EB := E.1; have C := E.cells; simp only [BC] at C; clear hb) | (go_at_call 36; (first | (with_reducible refine (hP _ (hV.on EB)).mono ?_) | (with_reducible refine (hP _ (hV.on (belows EB (al1 _ _)))).mono ?_)); rintro e wA ⟨rfl, hb⟩; (first | (replace E := (E.add _ _).on hb) | (replace E := E.on hb)); replace EB := E.1; replace C := E.cells; simp only [BC] at C; clear hb) | (go_at_call 34; (first | (with_reducible refine (hTy _ (hV.on EB)).mono ?_) | (with_reducible refine (hTy _ (hV.on (belows EB (al1 _ _)))).mono ?_)); rintro e wA ⟨rfl, hb⟩; (first | (replace E := (E.add _ _).on hb) | (replace E := E.on hb)); replace EB := E.1; replace C := E.cells; simp only [BC] at C; clear hb) | (go_at_call 17; (with_reducible refine (hVy _).mono ?_); rintro e wA ⟨rfl, hb⟩; (first | (replace E := (E.add _ _).on hb) | (replace E := E.on hb)); replace EB := E.1; replace C := E.cells; simp only [BC] at C; clear hb) | (go_at_call 34; (first | (with_reducible refine (hT _ (hV.on EB)).mono ?_) | (with_reducible refine (hT _ (hV.on (belows EB (al1 _ _)))).mono ?_)); rintro e wA ⟨rfl, hb⟩; (first | (replace E := (E.add _ _).on hb) | (replace E := E.on hb)); replace EB := E.1; replace C := E.cells; simp only [BC] at C; clear hb) | (go_at_call 17; (with_reducible refine (hVa _).mono ?_); rintro e wA ⟨rfl, hb⟩; (first | (replace E := (E.add _ _).on hb) | (replace E := E.on hb)); replace EB := E.1; replace C := E.cells; simp only [BC] at C; clear hb))
  all_goals go_ret
  all_goals first | refine ⟨?_, E.1⟩ | refine ⟨?_, belows E.1 (al1 _ _)⟩
  all_goals first | rfl | simp
set_option maxRecDepth 100000 in
set_option maxHeartbeats 8000000 in
theorem read_1err (a : Addr) (l : List (Int × Int)) (cap c k : Nat) (y z : Int) (e0 f1 f2 f3 : Int) (n d : Int) (s : ByteArray) (w : World) (hV : Vars w) (hS : Sl w (some a) l) (hcap : l.length ≤ cap) (hl : l.length ≤ 1000) (hc : c < 256) (hk : k = c % (l.length + 1)) (i1 : I64 n) (i2 : I64 d)
    (g1 : decide ((100 : Int) < (s.size : Int)) = false) (g2 : decide ((40 : Int) < (l.length : Int)) = false) (hs : s.size ≤ 1000) (r0 : parseR s.data.toList = (y, z, 0)) (vy : V y z) (ty : s = ⟨(textL y z).toArray⟩) (va : V n d) (r1 : sumR l = (0, 0, e0)) (he : e0 ≠ 0) (r2 : sumR (l.take k) = (f1, f2, f3)) :
    Calls Tryd.prog 10 #[.agg #[.int .i64 n, .int .i64 d], .string s, .slice (some a) l.length cap, .int .u8 c] w (Yes w) := by
  have hP := fun W (h : Vars W) => parse_any s W hs h r0
  have hTy := fun W (h : Vars W) => text_ok y z W vy h.1
  rw [← ty] at hTy
  have hVy := fun W => valid_any y z W (V_b vy).1.1 (V_b vy).1.2 (V_b vy).2.1 (V_b vy).2.2
  rw [vB_t.2 vy] at hVy
  have hT := fun W (h : Vars W) => text_ok n d W va h.1
  obtain ⟨ta, hta⟩ : ∃ ta : ByteArray, ta = ⟨(textL n d).toArray⟩ := ⟨_, rfl⟩
  have hPa := fun W (h : Vars W) => parse_any ta W (by rw [hta, b_size]; exact textL_size va) h (show parseR ta.data.toList = (n, d, 0) by rw [hta]; exact parse_text va)
  rw [← hta] at hT
  clear hta
  have he' : (e0 == 0) = false := by simpa using he
  have hL := fun W (h : Sl W (some a) l) => sum_any (some a) l cap W h r1
  have hkl : k ≤ l.length := by have := Nat.mod_lt c (show 0 < l.length + 1 by omega); omega
  have hF : ∀ W, Sl W (some a) l → Calls Tryd.prog 31 #[.slice (some a) k cap] W (fun e w' => e = .returned (.tuple #[.agg #[.int .i64 f1, .int .i64 f2], .int .i64 f3]) ∧ Below W.heap.size W w') := fun W h => by
    have := sum_any (some a) (l.take k) cap W (h.take k) r2
    rwa [List.length_take, Nat.min_eq_left hkl] at this
  have W0 : IntKind.i64.wrap (c : Int) = (c : Int) := IntWalk.i64_in _ (by omega)
  have W1 : IntKind.i64.wrap ((l.length : Int) + 1) = ((l.length + 1 : Nat) : Int) := by rw [IntWalk.i64_in _ (by omega)]; omega
  have W2 : (c : Int) % ((l.length : Int) + 1) = (k : Int) := by rw [show (c : Int) % ((l.length : Int) + 1) = ((c % (l.length + 1) : Nat) : Int) by simp, ← hk]
  have Z0 : (((l.length + 1 : Nat) : Int) == 0) = false := by simp; omega
  have B1 : (0 : Int) ≤ (k : Int) := by omega
  have B2 : (k : Int) ≤ (l.length : Int) := by omega
  have B3 : (k : Int) ≤ (cap : Int) := by omega
  have B4 : (l.length : Int) ≤ (cap : Int) := by omega
  have HK := Lib.hid hk
  clear hk
  clear r0 ty r1 r2
  go_enter Tryd.func10, Tryd.ntmps10
  go_wp2_with (first | (go_at_call 11; refine (awake_any _ (hV.1.on (al1 _ _))).mono ?_; rintro e w0 ⟨rfl, hb⟩; have E := (env_one w n d).on hb; have EB := E.1; have C := E.cells; simp only [BC] at C; clear hb) | (go_at_call 36; (first | (with_reducible refine (hP _ (hV.on EB)).mono ?_) | (with_reducible refine (hP _ (hV.on (belows EB (al1 _ _)))).mono ?_)); rintro e wA ⟨rfl, hb⟩; (first | (replace E := (E.add _ _).on hb) | (replace E := E.on hb)); replace EB := E.1; replace C := E.cells; simp only [BC] at C; clear hb) | (go_at_call 34; (first | (with_reducible refine (hTy _ (hV.on EB)).mono ?_) | (with_reducible refine (hTy _ (hV.on (belows EB (al1 _ _)))).mono ?_)); rintro e wA ⟨rfl, hb⟩; (first | (replace E := (E.add _ _).on hb) | (replace E := E.on hb)); replace EB := E.1; replace C := E.cells; simp only [BC] at C; clear hb) | (go_at_call 17; (with_reducible refine (hVy _).mono ?_); rintro e wA ⟨rfl, hb⟩; (first | (replace E := (E.add _ _).on hb) | (replace E := E.on hb)); replace EB := E.1; replace C := E.cells; simp only [BC] at C; clear hb) | (go_at_call 34; (first | (with_reducible refine (hT _ (hV.on EB)).mono ?_) | (with_reducible refine (hT _ (hV.on (belows EB (al1 _ _)))).mono ?_)); rintro e wA ⟨rfl, hb⟩; (first | (replace E := (E.add _ _).on hb) | (replace E := E.on hb)); replace EB := E.1; replace C := E.cells; simp only [BC] at C; clear hb) | (go_at_call 36; (first | (with_reducible refine (hPa _ (hV.on EB)).mono ?_) | (with_reducible refine (hPa _ (hV.on (belows EB (al1 _ _)))).mono ?_)); rintro e wA ⟨rfl, hb⟩; (first | (replace E := (E.add _ _).on hb) | (replace E := E.on hb)); replace EB := E.1; replace C := E.cells; simp only [BC] at C; clear hb) | (go_at_call 31; (first | (with_reducible refine (hL _ (hS.on EB)).mono ?_) | (with_reducible refine (hL _ (hS.on (belows EB (al1 _ _)))).mono ?_)); rintro e wA ⟨rfl, hb⟩; (first | (replace E := (E.add _ _).on hb) | (replace E := E.on hb)); replace EB := E.1; replace C := E.cells; simp only [BC] at C; clear hb) | (go_at_call 31; (first | (with_reducible refine (hF _ (hS.on EB)).mono ?_) | (with_reducible refine (hF _ (hS.on (belows EB (al1 _ _)))).mono ?_)); rintro e wA ⟨rfl, hb⟩; (first | (replace E := (E.add _ _).on hb) | (replace E := E.on hb)); replace EB := E.1; replace C := E.cells; simp only [BC] at C; clear hb))
  all_goals go_ret
  all_goals first | refine ⟨?_, E.1⟩ | refine ⟨?_, belows E.1 (al1 _ _)⟩
  all_goals first | rfl | simp
set_option maxRecDepth 100000 in
set_option maxHeartbeats 8000000 in
theorem read_1drop (a : Addr) (l : List (Int × Int)) (cap c k : Nat) (y z : Int) (x q e0 : Int) (f1 f2 : Int) (e3 : Int) (n d : Int) (s : ByteArray) (w : World) (hV : Vars w) (hS : Sl w (some a) l) (hcap : l.length ≤ cap) (hl : l.length ≤ 1000) (hc : c < 256) (hk : k = c % (l.length + 1)) (i1 : I64 n) (i2 : I64 d)
    (g1 : decide ((100 : Int) < (s.size : Int)) = false) (g2 : decide ((40 : Int) < (l.length : Int)) = false) (hs : s.size ≤ 1000) (r0 : parseR s.data.toList = (y, z, 0)) (vy : V y z) (ty : s = ⟨(textL y z).toArray⟩) (va : V n d) (r1 : sumR l = (x, q, 0)) (r2 : sumR (l.take k) = (f1, f2, 0)) (r3 : sumR (l.drop k) = (0, 0, e3)) (he3 : e3 ≠ 0) :
    Calls Tryd.prog 10 #[.agg #[.int .i64 n, .int .i64 d], .string s, .slice (some a) l.length cap, .int .u8 c] w (Yes w) := by
  have hP := fun W (h : Vars W) => parse_any s W hs h r0
  have hTy := fun W (h : Vars W) => text_ok y z W vy h.1
  rw [← ty] at hTy
  have hVy := fun W => valid_any y z W (V_b vy).1.1 (V_b vy).1.2 (V_b vy).2.1 (V_b vy).2.2
  rw [vB_t.2 vy] at hVy
  have hT := fun W (h : Vars W) => text_ok n d W va h.1
  obtain ⟨ta, hta⟩ : ∃ ta : ByteArray, ta = ⟨(textL n d).toArray⟩ := ⟨_, rfl⟩
  have hPa := fun W (h : Vars W) => parse_any ta W (by rw [hta, b_size]; exact textL_size va) h (show parseR ta.data.toList = (n, d, 0) by rw [hta]; exact parse_text va)
  rw [← hta] at hT
  clear hta
  have hL := fun W (h : Sl W (some a) l) => sum_any (some a) l cap W h r1
  have hkl : k ≤ l.length := by have := Nat.mod_lt c (show 0 < l.length + 1 by omega); omega
  have hF : ∀ W, Sl W (some a) l → Calls Tryd.prog 31 #[.slice (some a) k cap] W (fun e w' => e = .returned (.tuple #[.agg #[.int .i64 f1, .int .i64 f2], .int .i64 0]) ∧ Below W.heap.size W w') := fun W h => by
    have := sum_any (some a) (l.take k) cap W (h.take k) r2
    rwa [List.length_take, Nat.min_eq_left hkl] at this
  have he3' : (e3 == 0) = false := by simpa using he3
  have hD : ∀ W, Sl W (some a) l → Calls Tryd.prog 31 #[.slice (if cap = k then some a else some (a.add (k * 2))) (l.length - k) (cap - k)] W (fun e w' => e = .returned (.tuple #[.agg #[.int .i64 0, .int .i64 0], .int .i64 e3]) ∧ Below W.heap.size W w') := fun W h => by
    have ed : (l.drop k).length = l.length - k := List.length_drop
    split
    · have e0 : l.drop k = [] := List.drop_of_length_le (by omega)
      have := sum_any (some a) (l.drop k) (cap - k) W (by rw [e0]; exact Sl.nil W _) r3
      rwa [ed] at this
    · have := sum_any (some (a.add (k * 2))) (l.drop k) (cap - k) W (h.drop k) r3
      rwa [ed] at this
  have W0 : IntKind.i64.wrap (c : Int) = (c : Int) := IntWalk.i64_in _ (by omega)
  have W1 : IntKind.i64.wrap ((l.length : Int) + 1) = ((l.length + 1 : Nat) : Int) := by rw [IntWalk.i64_in _ (by omega)]; omega
  have W2 : (c : Int) % ((l.length : Int) + 1) = (k : Int) := by rw [show (c : Int) % ((l.length : Int) + 1) = ((c % (l.length + 1) : Nat) : Int) by simp, ← hk]
  have Z0 : (((l.length + 1 : Nat) : Int) == 0) = false := by simp; omega
  have B1 : (0 : Int) ≤ (k : Int) := by omega
  have B2 : (k : Int) ≤ (l.length : Int) := by omega
  have B3 : (k : Int) ≤ (cap : Int) := by omega
  have B4 : (l.length : Int) ≤ (cap : Int) := by omega
  have HK := Lib.hid hk
  clear hk
  clear r0 ty r1 r2 r3
  go_enter Tryd.func10, Tryd.ntmps10
  go_wp2_with (first | (go_at_call 11; refine (awake_any _ (hV.1.on (al1 _ _))).mono ?_; rintro e w0 ⟨rfl, hb⟩; have E := (env_one w n d).on hb; have EB := E.1; have C := E.cells; simp only [BC] at C; clear hb) | (go_at_call 36; (first | (with_reducible refine (hP _ (hV.on EB)).mono ?_) | (with_reducible refine (hP _ (hV.on (belows EB (al1 _ _)))).mono ?_)); rintro e wA ⟨rfl, hb⟩; (first | (replace E := (E.add _ _).on hb) | (replace E := E.on hb)); replace EB := E.1; replace C := E.cells; simp only [BC] at C; clear hb) | (go_at_call 34; (first | (with_reducible refine (hTy _ (hV.on EB)).mono ?_) | (with_reducible refine (hTy _ (hV.on (belows EB (al1 _ _)))).mono ?_)); rintro e wA ⟨rfl, hb⟩; (first | (replace E := (E.add _ _).on hb) | (replace E := E.on hb)); replace EB := E.1; replace C := E.cells; simp only [BC] at C; clear hb) | (go_at_call 17; (with_reducible refine (hVy _).mono ?_); rintro e wA ⟨rfl, hb⟩; (first | (replace E := (E.add _ _).on hb) | (replace E := E.on hb)); replace EB := E.1; replace C := E.cells; simp only [BC] at C; clear hb) | (go_at_call 34; (first | (with_reducible refine (hT _ (hV.on EB)).mono ?_) | (with_reducible refine (hT _ (hV.on (belows EB (al1 _ _)))).mono ?_)); rintro e wA ⟨rfl, hb⟩; (first | (replace E := (E.add _ _).on hb) | (replace E := E.on hb)); replace EB := E.1; replace C := E.cells; simp only [BC] at C; clear hb) | (go_at_call 36; (first | (with_reducible refine (hPa _ (hV.on EB)).mono ?_) | (with_reducible refine (hPa _ (hV.on (belows EB (al1 _ _)))).mono ?_)); rintro e wA ⟨rfl, hb⟩; (first | (replace E := (E.add _ _).on hb) | (replace E := E.on hb)); replace EB := E.1; replace C := E.cells; simp only [BC] at C; clear hb) | (go_at_call 31; (first | (with_reducible refine (hL _ (hS.on EB)).mono ?_) | (with_reducible refine (hL _ (hS.on (belows EB (al1 _ _)))).mono ?_)); rintro e wA ⟨rfl, hb⟩; (first | (replace E := (E.add _ _).on hb) | (replace E := E.on hb)); replace EB := E.1; replace C := E.cells; simp only [BC] at C; clear hb) | (go_at_call 31; (first | (with_reducible refine (hF _ (hS.on EB)).mono ?_) | (with_reducible refine (hF _ (hS.on (belows EB (al1 _ _)))).mono ?_)); rintro e wA ⟨rfl, hb⟩; (first | (replace E := (E.add _ _).on hb) | (replace E := E.on hb)); replace EB := E.1; replace C := E.cells; simp only [BC] at C; clear hb) | (go_at_call 31; (first | (with_reducible refine (hD _ (hS.on EB)).mono ?_) | (with_reducible refine (hD _ (hS.on (belows EB (al1 _ _)))).mono ?_)); rintro e wA ⟨rfl, hb⟩; (first | (replace E := (E.add _ _).on hb) | (replace E := E.on hb)); replace EB := E.1; replace C := E.cells; simp only [BC] at C; clear hb))
  all_goals go_ret
  all_goals first | refine ⟨?_, E.1⟩ | refine ⟨?_, belows E.1 (al1 _ _)⟩
  all_goals first | rfl | simp
set_option maxRecDepth 100000 in
set_option maxHeartbeats 8000000 in
theorem read_1ok (a : Addr) (l : List (Int × Int)) (cap c k : Nat) (y z : Int) (x q e0 : Int) (f1 f2 : Int) (h1 h2 : Int) (n d : Int) (s : ByteArray) (w : World) (hV : Vars w) (hS : Sl w (some a) l) (hcap : l.length ≤ cap) (hl : l.length ≤ 1000) (hc : c < 256) (hk : k = c % (l.length + 1)) (i1 : I64 n) (i2 : I64 d)
    (g1 : decide ((100 : Int) < (s.size : Int)) = false) (g2 : decide ((40 : Int) < (l.length : Int)) = false) (hs : s.size ≤ 1000) (r0 : parseR s.data.toList = (y, z, 0)) (vy : V y z) (ty : s = ⟨(textL y z).toArray⟩) (va : V n d) (r1 : sumR l = (x, q, 0)) (r2 : sumR (l.take k) = (f1, f2, 0)) (r3 : sumR (l.drop k) = (h1, h2, 0)) (ra : addR f1 f2 h1 h2 = (x, q, 0)) (r4 : sumR l.reverse = (x, q, 0)) :
    Calls Tryd.prog 10 #[.agg #[.int .i64 n, .int .i64 d], .string s, .slice (some a) l.length cap, .int .u8 c] w (Yes w) := by
  have hP := fun W (h : Vars W) => parse_any s W hs h r0
  have hTy := fun W (h : Vars W) => text_ok y z W vy h.1
  rw [← ty] at hTy
  have hVy := fun W => valid_any y z W (V_b vy).1.1 (V_b vy).1.2 (V_b vy).2.1 (V_b vy).2.2
  rw [vB_t.2 vy] at hVy
  have hT := fun W (h : Vars W) => text_ok n d W va h.1
  obtain ⟨ta, hta⟩ : ∃ ta : ByteArray, ta = ⟨(textL n d).toArray⟩ := ⟨_, rfl⟩
  have hPa := fun W (h : Vars W) => parse_any ta W (by rw [hta, b_size]; exact textL_size va) h (show parseR ta.data.toList = (n, d, 0) by rw [hta]; exact parse_text va)
  rw [← hta] at hT
  clear hta
  have hL := fun W (h : Sl W (some a) l) => sum_any (some a) l cap W h r1
  have hkl : k ≤ l.length := by have := Nat.mod_lt c (show 0 < l.length + 1 by omega); omega
  have hF : ∀ W, Sl W (some a) l → Calls Tryd.prog 31 #[.slice (some a) k cap] W (fun e w' => e = .returned (.tuple #[.agg #[.int .i64 f1, .int .i64 f2], .int .i64 0]) ∧ Below W.heap.size W w') := fun W h => by
    have := sum_any (some a) (l.take k) cap W (h.take k) r2
    rwa [List.length_take, Nat.min_eq_left hkl] at this
  have hD : ∀ W, Sl W (some a) l → Calls Tryd.prog 31 #[.slice (if cap = k then some a else some (a.add (k * 2))) (l.length - k) (cap - k)] W (fun e w' => e = .returned (.tuple #[.agg #[.int .i64 h1, .int .i64 h2], .int .i64 0]) ∧ Below W.heap.size W w') := fun W h => by
    have ed : (l.drop k).length = l.length - k := List.length_drop
    split
    · have e0 : l.drop k = [] := List.drop_of_length_le (by omega)
      have := sum_any (some a) (l.drop k) (cap - k) W (by rw [e0]; exact Sl.nil W _) r3
      rwa [ed] at this
    · have := sum_any (some (a.add (k * 2))) (l.drop k) (cap - k) W (h.drop k) r3
      rwa [ed] at this
  have hA := fun W => add_any f1 f2 h1 h2 W (all4_of r2 r3) ra
  have hC := fun W (h : Sl W (some a) l) => clone_any (some a) l cap W h hl
  have hmr : l.reverse.length ≤ maxLen := by rw [List.length_reverse]; exact hS.2.2.1
  have hIr : ∀ x ∈ l.reverse, I64 x.1 ∧ I64 x.2 := fun x hx => hS.2.2.2 x (List.mem_reverse.1 hx)
  have hR : ∀ W q9 c9, Sl W q9 l.reverse → Calls Tryd.prog 31 #[.slice q9 l.length c9] W (fun e w' => e = .returned (.tuple #[.agg #[.int .i64 x, .int .i64 q], .int .i64 0]) ∧ Below W.heap.size W w') := fun W q9 c9 h => by
    have := sum_any q9 l.reverse c9 W h r4
    rwa [List.length_reverse] at this
  have W0 : IntKind.i64.wrap (c : Int) = (c : Int) := IntWalk.i64_in _ (by omega)
  have W1 : IntKind.i64.wrap ((l.length : Int) + 1) = ((l.length + 1 : Nat) : Int) := by rw [IntWalk.i64_in _ (by omega)]; omega
  have W2 : (c : Int) % ((l.length : Int) + 1) = (k : Int) := by rw [show (c : Int) % ((l.length : Int) + 1) = ((c % (l.length + 1) : Nat) : Int) by simp, ← hk]
  have Z0 : (((l.length + 1 : Nat) : Int) == 0) = false := by simp; omega
  have B1 : (0 : Int) ≤ (k : Int) := by omega
  have B2 : (k : Int) ≤ (l.length : Int) := by omega
  have B3 : (k : Int) ≤ (cap : Int) := by omega
  have B4 : (l.length : Int) ≤ (cap : Int) := by omega
  have HK := Lib.hid hk
  clear hk
  clear r0 ty r1 r2 r3 ra r4
  go_enter Tryd.func10, Tryd.ntmps10
  go_wp2_with (first | (go_at_call 11; refine (awake_any _ (hV.1.on (al1 _ _))).mono ?_; rintro e w0 ⟨rfl, hb⟩; have E := (env_one w n d).on hb; have EB := E.1; have C := E.cells; simp only [BC] at C; clear hb) | (go_at_call 36; (first | (with_reducible refine (hP _ (hV.on EB)).mono ?_) | (with_reducible refine (hP _ (hV.on (belows EB (al1 _ _)))).mono ?_)); rintro e wA ⟨rfl, hb⟩; (first | (replace E := (E.add _ _).on hb) | (replace E := E.on hb)); replace EB := E.1; replace C := E.cells; simp only [BC] at C; clear hb) | (go_at_call 34; (first | (with_reducible refine (hTy _ (hV.on EB)).mono ?_) | (with_reducible refine (hTy _ (hV.on (belows EB (al1 _ _)))).mono ?_)); rintro e wA ⟨rfl, hb⟩; (first | (replace E := (E.add _ _).on hb) | (replace E := E.on hb)); replace EB := E.1; replace C := E.cells; simp only [BC] at C; clear hb) | (go_at_call 17; (with_reducible refine (hVy _).mono ?_); rintro e wA ⟨rfl, hb⟩; (first | (replace E := (E.add _ _).on hb) | (replace E := E.on hb)); replace EB := E.1; replace C := E.cells; simp only [BC] at C; clear hb) | (go_at_call 34; (first | (with_reducible refine (hT _ (hV.on EB)).mono ?_) | (with_reducible refine (hT _ (hV.on (belows EB (al1 _ _)))).mono ?_)); rintro e wA ⟨rfl, hb⟩; (first | (replace E := (E.add _ _).on hb) | (replace E := E.on hb)); replace EB := E.1; replace C := E.cells; simp only [BC] at C; clear hb) | (go_at_call 36; (first | (with_reducible refine (hPa _ (hV.on EB)).mono ?_) | (with_reducible refine (hPa _ (hV.on (belows EB (al1 _ _)))).mono ?_)); rintro e wA ⟨rfl, hb⟩; (first | (replace E := (E.add _ _).on hb) | (replace E := E.on hb)); replace EB := E.1; replace C := E.cells; simp only [BC] at C; clear hb) | (go_at_call 31; (first | (with_reducible refine (hL _ (hS.on EB)).mono ?_) | (with_reducible refine (hL _ (hS.on (belows EB (al1 _ _)))).mono ?_)); rintro e wA ⟨rfl, hb⟩; (first | (replace E := (E.add _ _).on hb) | (replace E := E.on hb)); replace EB := E.1; replace C := E.cells; simp only [BC] at C; clear hb) | (go_at_call 31; (first | (with_reducible refine (hF _ (hS.on EB)).mono ?_) | (with_reducible refine (hF _ (hS.on (belows EB (al1 _ _)))).mono ?_)); rintro e wA ⟨rfl, hb⟩; (first | (replace E := (E.add _ _).on hb) | (replace E := E.on hb)); replace EB := E.1; replace C := E.cells; simp only [BC] at C; clear hb) | (go_at_call 31; (first | (with_reducible refine (hD _ (hS.on EB)).mono ?_) | (with_reducible refine (hD _ (hS.on (belows EB (al1 _ _)))).mono ?_)); rintro e wA ⟨rfl, hb⟩; (first | (replace E := (E.add _ _).on hb) | (replace E := E.on hb)); replace EB := E.1; replace C := E.cells; simp only [BC] at C; clear hb) | (go_at_call 21; (with_reducible refine (hA _).mono ?_); rintro e wA ⟨rfl, hb⟩; (first | (replace E := (E.add _ _).on hb) | (replace E := E.on hb)); replace EB := E.1; replace C := E.cells; simp only [BC] at C; clear hb) | (go_at_call 38; (first | (with_reducible refine (hC _ (hS.on EB)).mono ?_) | (with_reducible refine (hC _ (hS.on (belows EB (al1 _ _)))).mono ?_)); rintro e wC ⟨q9, c9, rfl, hO, hbC⟩) | (go_at_call 39; (with_reducible refine (reverse_any _ q9 l c9 _ hO hl).mono ?_); rintro e wR ⟨rfl, hO2, hb2⟩; have hb := hbC.trans hb2; have hSr := hO2.sl hmr hIr; clear hO hO2 hbC hb2; (first | (replace E := (E.add _ _).on hb) | (replace E := E.on hb)); replace EB := E.1; replace C := E.cells; simp only [BC] at C; clear hb) | (go_at_call 31; (with_reducible refine (hR _ q9 c9 hSr).mono ?_); rintro e wA ⟨rfl, hb⟩; (first | (replace E := (E.add _ _).on hb) | (replace E := E.on hb)); replace EB := E.1; replace C := E.cells; simp only [BC] at C; clear hb))
  all_goals go_ret
  all_goals first | refine ⟨?_, E.1⟩ | refine ⟨?_, belows E.1 (al1 _ _)⟩
  all_goals first | rfl | simp
set_option maxRecDepth 100000 in
set_option maxHeartbeats 8000000 in
theorem read_1big (a : Addr) (l : List (Int × Int)) (cap c k : Nat) (y z : Int) (x q e0 : Int) (f1 f2 : Int) (h1 h2 : Int) (n d : Int) (s : ByteArray) (w : World) (hV : Vars w) (hS : Sl w (some a) l) (hcap : l.length ≤ cap) (hl : l.length ≤ 1000) (hc : c < 256) (hk : k = c % (l.length + 1)) (i1 : I64 n) (i2 : I64 d)
    (g1 : decide ((100 : Int) < (s.size : Int)) = false) (g2 : decide ((40 : Int) < (l.length : Int)) = false) (hs : s.size ≤ 1000) (r0 : parseR s.data.toList = (y, z, 0)) (vy : V y z) (ty : s = ⟨(textL y z).toArray⟩) (va : V n d) (r1 : sumR l = (x, q, 0)) (r2 : sumR (l.take k) = (f1, f2, 0)) (r3 : sumR (l.drop k) = (h1, h2, 0)) (ra : addR f1 f2 h1 h2 = (x, q, 0)) (r4 : sumR l.reverse = (0, 0, 5)) :
    Calls Tryd.prog 10 #[.agg #[.int .i64 n, .int .i64 d], .string s, .slice (some a) l.length cap, .int .u8 c] w (Yes w) := by
  have hP := fun W (h : Vars W) => parse_any s W hs h r0
  have hTy := fun W (h : Vars W) => text_ok y z W vy h.1
  rw [← ty] at hTy
  have hVy := fun W => valid_any y z W (V_b vy).1.1 (V_b vy).1.2 (V_b vy).2.1 (V_b vy).2.2
  rw [vB_t.2 vy] at hVy
  have hT := fun W (h : Vars W) => text_ok n d W va h.1
  obtain ⟨ta, hta⟩ : ∃ ta : ByteArray, ta = ⟨(textL n d).toArray⟩ := ⟨_, rfl⟩
  have hPa := fun W (h : Vars W) => parse_any ta W (by rw [hta, b_size]; exact textL_size va) h (show parseR ta.data.toList = (n, d, 0) by rw [hta]; exact parse_text va)
  rw [← hta] at hT
  clear hta
  have hL := fun W (h : Sl W (some a) l) => sum_any (some a) l cap W h r1
  have hkl : k ≤ l.length := by have := Nat.mod_lt c (show 0 < l.length + 1 by omega); omega
  have hF : ∀ W, Sl W (some a) l → Calls Tryd.prog 31 #[.slice (some a) k cap] W (fun e w' => e = .returned (.tuple #[.agg #[.int .i64 f1, .int .i64 f2], .int .i64 0]) ∧ Below W.heap.size W w') := fun W h => by
    have := sum_any (some a) (l.take k) cap W (h.take k) r2
    rwa [List.length_take, Nat.min_eq_left hkl] at this
  have hD : ∀ W, Sl W (some a) l → Calls Tryd.prog 31 #[.slice (if cap = k then some a else some (a.add (k * 2))) (l.length - k) (cap - k)] W (fun e w' => e = .returned (.tuple #[.agg #[.int .i64 h1, .int .i64 h2], .int .i64 0]) ∧ Below W.heap.size W w') := fun W h => by
    have ed : (l.drop k).length = l.length - k := List.length_drop
    split
    · have e0 : l.drop k = [] := List.drop_of_length_le (by omega)
      have := sum_any (some a) (l.drop k) (cap - k) W (by rw [e0]; exact Sl.nil W _) r3
      rwa [ed] at this
    · have := sum_any (some (a.add (k * 2))) (l.drop k) (cap - k) W (h.drop k) r3
      rwa [ed] at this
  have hA := fun W => add_any f1 f2 h1 h2 W (all4_of r2 r3) ra
  have hC := fun W (h : Sl W (some a) l) => clone_any (some a) l cap W h hl
  have hmr : l.reverse.length ≤ maxLen := by rw [List.length_reverse]; exact hS.2.2.1
  have hIr : ∀ x ∈ l.reverse, I64 x.1 ∧ I64 x.2 := fun x hx => hS.2.2.2 x (List.mem_reverse.1 hx)
  have hR : ∀ W q9 c9, Sl W q9 l.reverse → Calls Tryd.prog 31 #[.slice q9 l.length c9] W (fun e w' => e = .returned (.tuple #[.agg #[.int .i64 0, .int .i64 0], .int .i64 5]) ∧ Below W.heap.size W w') := fun W q9 c9 h => by
    have := sum_any q9 l.reverse c9 W h r4
    rwa [List.length_reverse] at this
  have W0 : IntKind.i64.wrap (c : Int) = (c : Int) := IntWalk.i64_in _ (by omega)
  have W1 : IntKind.i64.wrap ((l.length : Int) + 1) = ((l.length + 1 : Nat) : Int) := by rw [IntWalk.i64_in _ (by omega)]; omega
  have W2 : (c : Int) % ((l.length : Int) + 1) = (k : Int) := by rw [show (c : Int) % ((l.length : Int) + 1) = ((c % (l.length + 1) : Nat) : Int) by simp, ← hk]
  have Z0 : (((l.length + 1 : Nat) : Int) == 0) = false := by simp; omega
  have B1 : (0 : Int) ≤ (k : Int) := by omega
  have B2 : (k : Int) ≤ (l.length : Int) := by omega
  have B3 : (k : Int) ≤ (cap : Int) := by omega
  have B4 : (l.length : Int) ≤ (cap : Int) := by omega
  have HK := Lib.hid hk
  clear hk
  clear r0 ty r1 r2 r3 ra r4
  go_enter Tryd.func10, Tryd.ntmps10
  go_wp2_with (first | (go_at_call 11; refine (awake_any _ (hV.1.on (al1 _ _))).mono ?_; rintro e w0 ⟨rfl, hb⟩; have E := (env_one w n d).on hb; have EB := E.1; have C := E.cells; simp only [BC] at C; clear hb) | (go_at_call 36; (first | (with_reducible refine (hP _ (hV.on EB)).mono ?_) | (with_reducible refine (hP _ (hV.on (belows EB (al1 _ _)))).mono ?_)); rintro e wA ⟨rfl, hb⟩; (first | (replace E := (E.add _ _).on hb) | (replace E := E.on hb)); replace EB := E.1; replace C := E.cells; simp only [BC] at C; clear hb) | (go_at_call 34; (first | (with_reducible refine (hTy _ (hV.on EB)).mono ?_) | (with_reducible refine (hTy _ (hV.on (belows EB (al1 _ _)))).mono ?_)); rintro e wA ⟨rfl, hb⟩; (first | (replace E := (E.add _ _).on hb) | (replace E := E.on hb)); replace EB := E.1; replace C := E.cells; simp only [BC] at C; clear hb) | (go_at_call 17; (with_reducible refine (hVy _).mono ?_); rintro e wA ⟨rfl, hb⟩; (first | (replace E := (E.add _ _).on hb) | (replace E := E.on hb)); replace EB := E.1; replace C := E.cells; simp only [BC] at C; clear hb) | (go_at_call 34; (first | (with_reducible refine (hT _ (hV.on EB)).mono ?_) | (with_reducible refine (hT _ (hV.on (belows EB (al1 _ _)))).mono ?_)); rintro e wA ⟨rfl, hb⟩; (first | (replace E := (E.add _ _).on hb) | (replace E := E.on hb)); replace EB := E.1; replace C := E.cells; simp only [BC] at C; clear hb) | (go_at_call 36; (first | (with_reducible refine (hPa _ (hV.on EB)).mono ?_) | (with_reducible refine (hPa _ (hV.on (belows EB (al1 _ _)))).mono ?_)); rintro e wA ⟨rfl, hb⟩; (first | (replace E := (E.add _ _).on hb) | (replace E := E.on hb)); replace EB := E.1; replace C := E.cells; simp only [BC] at C; clear hb) | (go_at_call 31; (first | (with_reducible refine (hL _ (hS.on EB)).mono ?_) | (with_reducible refine (hL _ (hS.on (belows EB (al1 _ _)))).mono ?_)); rintro e wA ⟨rfl, hb⟩; (first | (replace E := (E.add _ _).on hb) | (replace E := E.on hb)); replace EB := E.1; replace C := E.cells; simp only [BC] at C; clear hb) | (go_at_call 31; (first | (with_reducible refine (hF _ (hS.on EB)).mono ?_) | (with_reducible refine (hF _ (hS.on (belows EB (al1 _ _)))).mono ?_)); rintro e wA ⟨rfl, hb⟩; (first | (replace E := (E.add _ _).on hb) | (replace E := E.on hb)); replace EB := E.1; replace C := E.cells; simp only [BC] at C; clear hb) | (go_at_call 31; (first | (with_reducible refine (hD _ (hS.on EB)).mono ?_) | (with_reducible refine (hD _ (hS.on (belows EB (al1 _ _)))).mono ?_)); rintro e wA ⟨rfl, hb⟩; (first | (replace E := (E.add _ _).on hb) | (replace E := E.on hb)); replace EB := E.1; replace C := E.cells; simp only [BC] at C; clear hb) | (go_at_call 21; (with_reducible refine (hA _).mono ?_); rintro e wA ⟨rfl, hb⟩; (first | (replace E := (E.add _ _).on hb) | (replace E := E.on hb)); replace EB := E.1; replace C := E.cells; simp only [BC] at C; clear hb) | (go_at_call 38; (first | (with_reducible refine (hC _ (hS.on EB)).mono ?_) | (with_reducible refine (hC _ (hS.on (belows EB (al1 _ _)))).mono ?_)); rintro e wC ⟨q9, c9, rfl, hO, hbC⟩) | (go_at_call 39; (with_reducible refine (reverse_any _ q9 l c9 _ hO hl).mono ?_); rintro e wR ⟨rfl, hO2, hb2⟩; have hb := hbC.trans hb2; have hSr := hO2.sl hmr hIr; clear hO hO2 hbC hb2; (first | (replace E := (E.add _ _).on hb) | (replace E := E.on hb)); replace EB := E.1; replace C := E.cells; simp only [BC] at C; clear hb) | (go_at_call 31; (with_reducible refine (hR _ q9 c9 hSr).mono ?_); rintro e wA ⟨rfl, hb⟩; (first | (replace E := (E.add _ _).on hb) | (replace E := E.on hb)); replace EB := E.1; replace C := E.cells; simp only [BC] at C; clear hb))
  all_goals go_ret
  all_goals first | refine ⟨?_, E.1⟩ | refine ⟨?_, belows E.1 (al1 _ _)⟩
  all_goals first | rfl | simp
set_option maxRecDepth 100000 in
set_option maxHeartbeats 8000000 in
theorem read_1badn (l : List (Int × Int)) (cap c k : Nat) (y z : Int) (n d : Int) (s : ByteArray) (w : World) (hV : Vars w) (hS : Sl w none l) (hcap : l.length ≤ cap) (hl : l.length ≤ 1000) (hc : c < 256) (hk : k = c % (l.length + 1)) (i1 : I64 n) (i2 : I64 d)
    (g1 : decide ((100 : Int) < (s.size : Int)) = false) (g2 : decide ((40 : Int) < (l.length : Int)) = false) (hs : s.size ≤ 1000) (r0 : parseR s.data.toList = (y, z, 0)) (vy : V y z) (ty : s = ⟨(textL y z).toArray⟩) (hv : vB n d = false) :
    Calls Tryd.prog 10 #[.agg #[.int .i64 n, .int .i64 d], .string s, .slice none l.length cap, .int .u8 c] w (Yes w) := by
  have hP := fun W (h : Vars W) => parse_any s W hs h r0
  have hTy := fun W (h : Vars W) => text_ok y z W vy h.1
  rw [← ty] at hTy
  have hVy := fun W => valid_any y z W (V_b vy).1.1 (V_b vy).1.2 (V_b vy).2.1 (V_b vy).2.2
  rw [vB_t.2 vy] at hVy
  have hT := fun W (h : Vars W) => text_bad n d W i1.1 i1.2 i2.1 i2.2 hv
  have hVa := fun W => valid_any n d W i1.1 i1.2 i2.1 i2.2
  rw [hv] at hVa
  clear r0 ty
  go_enter Tryd.func10, Tryd.ntmps10
  go_wp2_with (first | (go_at_call 11; refine (awake_any _ (hV.1.on (al1 _ _))).mono ?_; rintro e w0 ⟨rfl, hb⟩; have E := (env_one w n d).on hb; have EB := E.1; have C := E.cells; simp only [BC] at C; clear hb) | (go_at_call 36; (first | (with_reducible refine (hP _ (hV.on EB)).mono ?_) | (with_reducible refine (hP _ (hV.on (belows EB (al1 _ _)))).mono ?_)); rintro e wA ⟨rfl, hb⟩; (first | (replace E := (E.add _ _).on hb) | (replace E := E.on hb)); replace EB := E.1; replace C := E.cells; simp only [BC] at C; clear hb) | (go_at_call 34; (first | (with_reducible refine (hTy _ (hV.on EB)).mono ?_) | (with_reducible refine (hTy _ (hV.on (belows EB (al1 _ _)))).mono ?_)); rintro e wA ⟨rfl, hb⟩; (first | (replace E := (E.add _ _).on hb) | (replace E := E.on hb)); replace EB := E.1; replace C := E.cells; simp only [BC] at C; clear hb) | (go_at_call 17; (with_reducible refine (hVy _).mono ?_); rintro e wA ⟨rfl, hb⟩; (first | (replace E := (E.add _ _).on hb) | (replace E := E.on hb)); replace EB := E.1; replace C := E.cells; simp only [BC] at C; clear hb) | (go_at_call 34; (first | (with_reducible refine (hT _ (hV.on EB)).mono ?_) | (with_reducible refine (hT _ (hV.on (belows EB (al1 _ _)))).mono ?_)); rintro e wA ⟨rfl, hb⟩; (first | (replace E := (E.add _ _).on hb) | (replace E := E.on hb)); replace EB := E.1; replace C := E.cells; simp only [BC] at C; clear hb) | (go_at_call 17; (with_reducible refine (hVa _).mono ?_); rintro e wA ⟨rfl, hb⟩; (first | (replace E := (E.add _ _).on hb) | (replace E := E.on hb)); replace EB := E.1; replace C := E.cells; simp only [BC] at C; clear hb))
  all_goals go_ret
  all_goals first | refine ⟨?_, E.1⟩ | refine ⟨?_, belows E.1 (al1 _ _)⟩
  all_goals first | rfl | simp
set_option maxRecDepth 100000 in
set_option maxHeartbeats 8000000 in
theorem read_1nil (cap c : Nat) (y z : Int) (n d : Int) (s : ByteArray) (w : World) (hV : Vars w) (hc : c < 256) (i1 : I64 n) (i2 : I64 d) (g1 : decide ((100 : Int) < (s.size : Int)) = false) (hs : s.size ≤ 1000) (va : V n d) (r0 : parseR s.data.toList = (y, z, 0)) (vy : V y z) (ty : s = ⟨(textL y z).toArray⟩) :
    Calls Tryd.prog 10 #[.agg #[.int .i64 n, .int .i64 d], .string s, .slice none 0 cap, .int .u8 c] w (Yes w) := by
  have hP := fun W (h : Vars W) => parse_any s W hs h r0
  have hTy := fun W (h : Vars W) => text_ok y z W vy h.1
  rw [← ty] at hTy
  have hVy := fun W => valid_any y z W (V_b vy).1.1 (V_b vy).1.2 (V_b vy).2.1 (V_b vy).2.2
  rw [vB_t.2 vy] at hVy
  have hT := fun W (h : Vars W) => text_ok n d W va h.1
  obtain ⟨ta, hta⟩ : ∃ ta : ByteArray, ta = ⟨(textL n d).toArray⟩ := ⟨_, rfl⟩
  have hPa := fun W (h : Vars W) => parse_any ta W (by rw [hta, b_size]; exact textL_size va) h (show parseR ta.data.toList = (n, d, 0) by rw [hta]; exact parse_text va)
  rw [← hta] at hT
  clear hta
  have hL := fun W c9 => sum_any none [] c9 W (Sl.nil W none) (show sumR [] = (0, 1, 0) by decide)
  have hA := fun W => add_any 0 1 0 1 W (by unfold All4 I64; decide) (show addR 0 1 0 1 = (0, 1, 0) by decide)
  have hC := fun W c9 => clone_any none [] c9 W (Sl.nil W none) (by simp)
  have hR : ∀ W q9 c9, Calls Tryd.prog 31 #[.slice q9 0 c9] W (fun e w' => e = .returned (.tuple #[.agg #[.int .i64 0, .int .i64 1], .int .i64 0]) ∧ Below W.heap.size W w') := fun W q9 c9 => sum_any q9 [] c9 W (Sl.nil W q9) (by decide)
  have hRv : ∀ B W q9 c9, OwnF B W q9 [] → Calls Tryd.prog 39 #[.slice q9 0 c9] W (fun e w' => e = .returned (.tuple #[]) ∧ OwnF B w' q9 [] ∧ Below B W w') := fun B W q9 c9 h => reverse_any B q9 [] c9 W h (by simp)
  simp only [List.length_nil] at hL hC
  have W0 : IntKind.i64.wrap (c : Int) = (c : Int) := IntWalk.i64_in _ (by omega)
  clear r0 ty
  go_enter Tryd.func10, Tryd.ntmps10
  go_wp2_with (first | (go_at_call 11; refine (awake_any _ (hV.1.on (al1 _ _))).mono ?_; rintro e w0 ⟨rfl, hb⟩; have E := (env_one w n d).on hb; have EB := E.1; have C := E.cells; simp only [BC] at C; clear hb) | (go_at_call 36; (first | (with_reducible refine (hP _ (hV.on EB)).mono ?_) | (with_reducible refine (hP _ (hV.on (belows EB (al1 _ _)))).mono ?_)); rintro e wA ⟨rfl, hb⟩; (first | (replace E := (E.add _ _).on hb) | (replace E := E.on hb)); replace EB := E.1; replace C := E.cells; simp only [BC] at C; clear hb) | (go_at_call 34; (first | (with_reducible refine (hTy _ (hV.on EB)).mono ?_) | (with_reducible refine (hTy _ (hV.on (belows EB (al1 _ _)))).mono ?_)); rintro e wA ⟨rfl, hb⟩; (first | (replace E := (E.add _ _).on hb) | (replace E := E.on hb)); replace EB := E.1; replace C := E.cells; simp only [BC] at C; clear hb) | (go_at_call 17; (with_reducible refine (hVy _).mono ?_); rintro e wA ⟨rfl, hb⟩; (first | (replace E := (E.add _ _).on hb) | (replace E := E.on hb)); replace EB := E.1; replace C := E.cells; simp only [BC] at C; clear hb) | (go_at_call 34; (first | (with_reducible refine (hT _ (hV.on EB)).mono ?_) | (with_reducible refine (hT _ (hV.on (belows EB (al1 _ _)))).mono ?_)); rintro e wA ⟨rfl, hb⟩; (first | (replace E := (E.add _ _).on hb) | (replace E := E.on hb)); replace EB := E.1; replace C := E.cells; simp only [BC] at C; clear hb) | (go_at_call 36; (first | (with_reducible refine (hPa _ (hV.on EB)).mono ?_) | (with_reducible refine (hPa _ (hV.on (belows EB (al1 _ _)))).mono ?_)); rintro e wA ⟨rfl, hb⟩; (first | (replace E := (E.add _ _).on hb) | (replace E := E.on hb)); replace EB := E.1; replace C := E.cells; simp only [BC] at C; clear hb) | (go_at_call 21; (with_reducible refine (hA _).mono ?_); rintro e wA ⟨rfl, hb⟩; (first | (replace E := (E.add _ _).on hb) | (replace E := E.on hb)); replace EB := E.1; replace C := E.cells; simp only [BC] at C; clear hb) | (go_at_call 38; (with_reducible refine (hC _ _).mono ?_); rintro e wC ⟨q9, c9, rfl, hO, hbC⟩) | (go_at_call 39; (with_reducible refine (hRv _ _ _ _ hO).mono ?_); rintro e wR ⟨rfl, hO2, hb2⟩; have hb := hbC.trans hb2; clear hO hO2 hbC hb2; (first | (replace E := (E.add _ _).on hb) | (replace E := E.on hb)); replace EB := E.1; replace C := E.cells; simp only [BC] at C; clear hb) | (go_at_call 31; (with_reducible refine (hR _ _ _).mono ?_); rintro e wA ⟨rfl, hb⟩; (first | (replace E := (E.add _ _).on hb) | (replace E := E.on hb)); replace EB := E.1; replace C := E.cells; simp only [BC] at C; clear hb))
  all_goals go_ret
  all_goals first | refine ⟨?_, E.1⟩ | refine ⟨?_, belows E.1 (al1 _ _)⟩
  all_goals first | rfl | simp
end Go.Proofs.YtbbbmlnggehcdaaDoor
namespace Go.Proofs.YtbbbmlnggehcdaaDoor
open Go.ChangeShapes Go.WideShapes Go.ChangeAt Go.RowKit Go.Shelf
set_option linter.unusedVariables false

theorem sumR_take {l : List (Int × Int)} {x q : Int} (h : sumR l = (x, q, 0)) (k : Nat) : ∃ f1 f2, sumR (l.take k) = (f1, f2, 0) := by
  obtain ⟨hv, hl, e⟩ := sumR_ok h
  rw [← List.take_append_drop k l] at e
  obtain ⟨a, b, e1⟩ := sumF_app _ _ _ _ e
  exact ⟨a, b, by rw [sumR_to (fun x hx => hv x (List.mem_of_mem_take hx)) (by rw [List.length_take]; omega)]; exact e1⟩
theorem sumR_e {l : List (Int × Int)} : (∃ x q, sumR l = (x, q, 0)) ∨ ∃ e, e ≠ 0 ∧ sumR l = (0, 0, e) := by
  obtain ⟨x, q, e, h⟩ : ∃ x q e, sumR l = (x, q, e) := ⟨_, _, _, rfl⟩
  by_cases he : e = 0
  · subst he; exact .inl ⟨x, q, h⟩
  · obtain ⟨rfl, rfl⟩ := sumR_zero h he
    exact .inr ⟨e, he, h⟩
theorem read_walk (p : Option Addr) (l : List (Int × Int)) (cap c : Nat) (n d : Int) (s : ByteArray) (w : World) (hV : Vars w) (hS : Sl w p l) (hcap : l.length ≤ cap) (hc : c < 256) (i1 : I64 n) (i2 : I64 d) :
    Calls Tryd.prog 10 #[.agg #[.int .i64 n, .int .i64 d], .string s, .slice p l.length cap, .int .u8 c] w (Yes w) := by
  by_cases hb : (decide ((100 : Int) < (s.size : Int)) || decide ((40 : Int) < (l.length : Int))) = true
  · exact read_early p l cap c n d s w hV _ _ rfl rfl hb
  · simp only [Bool.or_eq_true, not_or, Bool.not_eq_true] at hb
    obtain ⟨g1, g2⟩ := hb
    have hs : s.size ≤ 1000 := by have := of_decide_eq_false g1; omega
    have hl : l.length ≤ 1000 := by have := of_decide_eq_false g2; omega
    obtain ⟨y, z, e, hp⟩ : ∃ y z e, parseR s.data.toList = (y, z, e) := ⟨_, _, _, rfl⟩
    have hp2 := parse_is hp
    cases hv : vB n d
    · cases p with
      | none =>
        have el := hS.1 rfl
        subst el
        rcases hp2 with ⟨rfl, vy, ty⟩ | ⟨rfl, rfl, rfl⟩
        · exact read_1badn [] cap c _ y z n d s w hV hS hcap hl hc rfl i1 i2 g1 g2 hs hp vy (b_eq ty.symm) hv
        · exact read_0badn [] cap c _ n d s w hV hS hcap hl hc rfl i1 i2 g1 g2 hs hp hv
      | some a =>
        rcases hp2 with ⟨rfl, vy, ty⟩ | ⟨rfl, rfl, rfl⟩
        · exact read_1bad a l cap c _ y z n d s w hV hS hcap hl hc rfl i1 i2 g1 g2 hs hp vy (b_eq ty.symm) hv
        · exact read_0bad a l cap c _ n d s w hV hS hcap hl hc rfl i1 i2 g1 g2 hs hp hv
    · have va := vB_t.1 hv
      cases p with
      | none =>
        have el := hS.1 rfl
        subst el
        rcases hp2 with ⟨rfl, vy, ty⟩ | ⟨rfl, rfl, rfl⟩
        · exact read_1nil cap c y z n d s w hV hc i1 i2 g1 hs va hp vy (b_eq ty.symm)
        · exact read_0nil cap c n d s w hV hc i1 i2 g1 hs va hp
      | some a =>
        obtain ⟨k, hk⟩ : ∃ k, k = c % (l.length + 1) := ⟨_, rfl⟩
        rcases sumR_e (l := l) with ⟨x, q, r1⟩ | ⟨e0, he, r1⟩
        · obtain ⟨f1, f2, r2⟩ := sumR_take r1 k
          rcases sumR_e (l := l.drop k) with ⟨h1, h2, r3⟩ | ⟨e3, he3, r3⟩
          · obtain ⟨hA, hL, e1⟩ := sumR_ok r1
            have ra := sum_parts hA k e1 (sumR_ok r2).2.2 (sumR_ok r3).2.2
            have hrl : AllV l.reverse := fun x hx => hA x (List.mem_reverse.1 hx)
            rcases sum_rev hA e1 with r | r
            · have r4 : sumR l.reverse = (x, q, 0) := by rw [sumR_to hrl (by simpa using hL)]; exact r
              rcases hp2 with ⟨rfl, vy, ty⟩ | ⟨rfl, rfl, rfl⟩
              · exact read_1ok a l cap c k y z x q 0 f1 f2 h1 h2 n d s w hV hS hcap hl hc hk i1 i2 g1 g2 hs hp vy (b_eq ty.symm) va r1 r2 r3 ra r4
              · exact read_0ok a l cap c k x q 0 f1 f2 h1 h2 n d s w hV hS hcap hl hc hk i1 i2 g1 g2 hs hp va r1 r2 r3 ra r4
            · have r4 : sumR l.reverse = (0, 0, 5) := by rw [sumR_to hrl (by simpa using hL)]; exact r
              rcases hp2 with ⟨rfl, vy, ty⟩ | ⟨rfl, rfl, rfl⟩
              · exact read_1big a l cap c k y z x q 0 f1 f2 h1 h2 n d s w hV hS hcap hl hc hk i1 i2 g1 g2 hs hp vy (b_eq ty.symm) va r1 r2 r3 ra r4
              · exact read_0big a l cap c k x q 0 f1 f2 h1 h2 n d s w hV hS hcap hl hc hk i1 i2 g1 g2 hs hp va r1 r2 r3 ra r4
          · rcases hp2 with ⟨rfl, vy, ty⟩ | ⟨rfl, rfl, rfl⟩
            · exact read_1drop a l cap c k y z x q 0 f1 f2 e3 n d s w hV hS hcap hl hc hk i1 i2 g1 g2 hs hp vy (b_eq ty.symm) va r1 r2 r3 he3
            · exact read_0drop a l cap c k x q 0 f1 f2 e3 n d s w hV hS hcap hl hc hk i1 i2 g1 g2 hs hp va r1 r2 r3 he3
        · obtain ⟨f1, f2, f3, r2⟩ : ∃ f1 f2 f3, sumR (l.take k) = (f1, f2, f3) := ⟨_, _, _, rfl⟩
          rcases hp2 with ⟨rfl, vy, ty⟩ | ⟨rfl, rfl, rfl⟩
          · exact read_1err a l cap c k y z e0 f1 f2 f3 n d s w hV hS hcap hl hc hk i1 i2 g1 g2 hs hp vy (b_eq ty.symm) va r1 he r2
          · exact read_0err a l cap c k e0 f1 f2 f3 n d s w hV hS hcap hl hc hk i1 i2 g1 g2 hs hp va r1 he r2
end Go.Proofs.YtbbbmlnggehcdaaDoor
