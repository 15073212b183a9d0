/- DigraphPaths: Px0, Px1, Px2, Py, Pv, Pc, Pz, Pn of this session in one text. -/
import Init
import Derived.Test.YteofbbakegcohaaTp
import Derived.Test.YteofbbakegcohaaPw
import Derived.Test.YteofbbakegcohaaTr
import Derived.Test.YteofbbakegcohaaPl2
import Derived.Test.YteofbbakegcohaaTq
import Derived.Deep.Slices
namespace Go.Proofs.Yteofbbakegcohaa
section
set_option linter.unusedVariables false

/-- What is known of the longest sums S of a graph without loops. -/
structure Lsm (n : Nat) (A : Nat → List Nat) (W S : Nat → Int) : Prop where
  attained : ∀ v, v < n → S v = W v ∨ ∃ u ∈ A v, S v = W v + S u
  own : ∀ v, v < n → W v ≤ S v
  step : ∀ v, v < n → ∀ u ∈ A v, W v + S u ≤ S v
/-- Each node of a list is one, and an edge leads to it from the one before. -/
def Pth (n : Nat) (A : Nat → List Nat) : List Nat → Prop
  | [] => True
  | [v] => v < n
  | v :: u :: l => v < n ∧ u ∈ A v ∧ Pth n A (u :: l)
def wsum (W : Nat → Int) (l : List Nat) : Int := (l.map W).sum
theorem wsum_cons (W : Nat → Int) (v : Nat) (l : List Nat) : wsum W (v :: l) = W v + wsum W l := by simp [wsum]
theorem pth_le {n : Nat} {A : Nat → List Nat} {W S : Nat → Int} (h : Lsm n A W S) : ∀ (l : List Nat) (v : Nat), Pth n A (v :: l) → wsum W (v :: l) ≤ S v
  | [], v, hp => by
    have := h.own v hp
    simpa [wsum] using this
  | u :: l, v, hp => by
    obtain ⟨hv, hu, hr⟩ := hp
    have h1 := pth_le h l u hr
    have h2 := h.step v hv u hu
    rw [wsum_cons]
    omega
/-- More edges, no lesser sums. -/
theorem wider_le {n : Nat} {A A' : Nat → List Nat} {W S S' : Nat → Int} {rk : Nat → Nat} (hA : ∀ v, v < n → ∀ u ∈ A v, u < n) (hr : ∀ v, v < n → ∀ u ∈ A v, rk u < rk v) (h : Lsm n A W S) (h' : Lsm n A' W S') (hs : ∀ v, v < n → ∀ u ∈ A v, u ∈ A' v) :
    ∀ k v, rk v ≤ k → v < n → S v ≤ S' v
  | k, v, hk, hv => by
    rcases h.attained v hv with e | ⟨u, hu, e⟩
    · rw [e]; exact h'.own v hv
    · have hlt := hr v hv u hu
      cases k with
      | zero => omega
      | succ k =>
        have h1 := wider_le hA hr h h' hs k u (by omega) (hA v hv u hu)
        have h2 := h'.step v hv u (hs v hv u hu)
        omega
/-- A greater weight of one node: no lesser sums. -/
theorem heavy_ge {n : Nat} {A : Nat → List Nat} {W W' S S' : Nat → Int} {rk : Nat → Nat} (hA : ∀ v, v < n → ∀ u ∈ A v, u < n) (hr : ∀ v, v < n → ∀ u ∈ A v, rk u < rk v) (h : Lsm n A W S) (h' : Lsm n A W' S') (hw : ∀ v, v < n → W v ≤ W' v) :
    ∀ k v, rk v ≤ k → v < n → S v ≤ S' v
  | k, v, hk, hv => by
    have hwv := hw v hv
    rcases h.attained v hv with e | ⟨u, hu, e⟩
    · have := h'.own v hv; omega
    · have hlt := hr v hv u hu
      cases k with
      | zero => omega
      | succ k =>
        have h1 := heavy_ge hA hr h h' hw k u (by omega) (hA v hv u hu)
        have h2 := h'.step v hv u hu
        omega
/-- A greater weight of one node z: a sum grows by no more than that; and not at all behind z. -/
theorem heavy_le {n : Nat} {A : Nat → List Nat} {W W' S S' : Nat → Int} {rk : Nat → Nat} {z : Nat} {m : Int} (hm : 0 ≤ m) (hA : ∀ v, v < n → ∀ u ∈ A v, u < n) (hr : ∀ v, v < n → ∀ u ∈ A v, rk u < rk v) (h : Lsm n A W S) (h' : Lsm n A W' S') (hz : W' z = W z + m) (ho : ∀ v, v ≠ z → W' v = W v) :
    ∀ k v, rk v ≤ k → v < n → S' v ≤ S v + m ∧ (rk v < rk z → S' v ≤ S v)
  | k, v, hk, hv => by
    by_cases hvz : v = z
    · subst hvz
      refine ⟨?_, fun hh => absurd hh (Nat.lt_irrefl _)⟩
      have hown := h.own v hv
      rcases h'.attained v hv with e | ⟨u, hu, e⟩
      · omega
      · have hlt := hr v hv u hu
        cases k with
        | zero => omega
        | succ k =>
          have h1 := (heavy_le hm hA hr h h' hz ho k u (by omega) (hA v hv u hu)).2 hlt
          have h2 := h.step v hv u hu
          omega
    · have hw := ho v hvz
      have hown := h.own v hv
      rcases h'.attained v hv with e | ⟨u, hu, e⟩
      · exact ⟨by omega, fun _ => by omega⟩
      · have hlt := hr v hv u hu
        cases k with
        | zero => omega
        | succ k =>
          have h1 := heavy_le hm hA hr h h' hz ho k u (by omega) (hA v hv u hu)
          have h2 := h.step v hv u hu
          refine ⟨by have := h1.1; omega, fun hh => ?_⟩
          have := h1.2 (by omega)
          omega
end
end Go.Proofs.Yteofbbakegcohaa
namespace Go.Proofs.Yteofbbakegcohaa
section
open Go.ChangeShapes Go.WideShapes Go.ChangeAt Go.RowKit
set_option linter.unusedVariables false
set_option linter.unusedSimpArgs false

theorem lsm_lg {A : Nat → List Nat} {n : Nat} {rk : Nat → Nat} (W : Nat → Int) (hA : ∀ v, v < n → ∀ u ∈ A v, u < n) (hr : Rnk A n rk) : Lsm n A W (lgS A W n) :=
  ⟨fun v hv => (lg_facts W hA hr hv).1, fun v hv => (lg_facts W hA hr hv).2.1, fun v hv => (lg_facts W hA hr hv).2.2⟩
theorem lgN_facts {A : Nat → List Nat} {n : Nat} {rk : Nat → Nat} (W : Nat → Int) (hA : ∀ v, v < n → ∀ u ∈ A v, u < n) (hr : Rnk A n rk) {v : Nat} (hv : v < n) :
    (lgN A W n v = none ∧ lgS A W n v = W v) ∨ ∃ u ∈ A v, lgN A W n v = some u ∧ lgS A W n v = W v + lgS A W n u := by
  have e := lg_rec W hA hr hv
  have f := stepL_fold W (lgS A W n) v (A v) (W v, none) (fun u h => by cases h)
  rw [← e] at f
  obtain ⟨-, -, f3⟩ := f
  rcases f3 with k | ⟨u, hu, k, -⟩
  · left; unfold lgN lgS; rw [k]; exact ⟨rfl, rfl⟩
  · right
    refine ⟨u, hu, ?_, ?_⟩
    · unfold lgN; rw [k]
    · conv => lhs; unfold lgS; rw [k]
theorem chn_pth {A : Nat → List Nat} {n : Nat} {rk : Nat → Nat} (W : Nat → Int) (hA : ∀ v, v < n → ∀ u ∈ A v, u < n) (hr : Rnk A n rk) :
    ∀ k v, rk v < k → v < n → ∃ t, chn (lgN A W n) k v = v :: t ∧ Pth n A (v :: t) ∧ wsum W (v :: t) = lgS A W n v
  | 0, v, h, _ => by omega
  | k + 1, v, h, hv => by
    unfold chn
    rcases lgN_facts W hA hr hv with ⟨e, e2⟩ | ⟨u, hu, e, e2⟩
    · rw [e]
      exact ⟨[], rfl, hv, by rw [e2]; simp [wsum]⟩
    · rw [e]
      have hlt := hr.1 v hv u hu
      obtain ⟨t, e3, p, s⟩ := chn_pth W hA hr k u (by omega) (hA v hv u hu)
      refine ⟨u :: t, ?_, ⟨hv, hu, p⟩, ?_⟩
      · simp only [e3]
      · rw [wsum_cons, s, e2]
/-- The path that Longest answers. -/
theorem lgA_pth {l : List (Nat × Nat)} {n : Nat} (h : ∀ x ∈ l, x.1 < n ∧ x.2 < n) (ws : List Int) (he : lgE l n ws = 0) :
    Pth n (adj l) (lgA l n ws).2 ∧ wsum (wtf ws) (lgA l n ws).2 = (lgA l n ws).1 ∧ ((lgA l n ws).2 = [] → n = 0) := by
  rw [lgA_1, lgA_2]
  by_cases hn : n = 0
  · rw [if_pos hn, if_pos hn]; exact ⟨trivial, rfl, fun _ => hn⟩
  · rw [if_neg hn, if_neg hn]
    obtain ⟨E, ho⟩ : ∃ E, ordr (adj l) n n [] = some E := by
      cases hc : ordr (adj l) n n [] with
      | none =>
        exfalso
        unfold lgE at he
        rw [hc] at he
        split at he
        · cases he
        · split at he
          · cases he
          · simp at he
      | some E => exact ⟨E, rfl⟩
    have r := ordr_rank (adj_lt h) ho
    have a := amx_lt (lgS (adj l) (wtf ws) n) n (by omega)
    obtain ⟨t, e, p, s⟩ := chn_pth (wtf ws) (adj_lt h) r (n + 1) (amx (lgS (adj l) (wtf ws) n) n) (by have := r.2 (amx (lgS (adj l) (wtf ws) n) n); omega) a
    rw [e]
    exact ⟨p, s, fun h => by cases h⟩
theorem lgE_ok {l : List (Nat × Nat)} {n : Nat} {ws : List Int} (he : lgE l n ws = 0) : ws.length = n ∧ ws.any (outN 1073741825) = false ∧ ∃ E, ordr (adj l) n n [] = some E := by
  unfold lgE at he
  split at he
  · cases he
  · rename_i h1
    split at he
    · cases he
    · rename_i h2
      split at he
      · cases he
      · rename_i h3
        refine ⟨by omega, by simpa using h2, ?_⟩
        cases hc : ordr (adj l) n n [] with
        | none => exact absurd hc h3
        | some E => exact ⟨E, rfl⟩
/-- A path that is given is no longer. -/
theorem given_le {l : List (Nat × Nat)} {n : Nat} (h : ∀ x ∈ l, x.1 < n ∧ x.2 < n) {ws : List Int} (he : lgE l n ws = 0) (q : List Nat) (hq : Pth n (adj l) q) : wsum (wtf ws) q ≤ (lgA l n ws).1 := by
  obtain ⟨-, h2, E, ho⟩ := lgE_ok he
  have r := ordr_rank (adj_lt h) ho
  have m := lsm_lg (wtf ws) (adj_lt h) r
  rw [lgA_1]
  cases q with
  | nil =>
    by_cases hn : n = 0
    · rw [if_pos hn]; simp [wsum]
    · rw [if_neg hn]
      have a := amx_lt (lgS (adj l) (wtf ws) n) n (by omega)
      have := m.own _ a
      have := (wt_bd h2 (amx (lgS (adj l) (wtf ws) n) n)).1
      simp only [wsum, List.map_nil, List.sum_nil]
      omega
  | cons v t =>
    have hv : v < n := by
      cases t with
      | nil => exact hq
      | cons u t => exact hq.1
    rw [if_neg (by omega)]
    have := pth_le m t v hq
    have := amx_max (lgS (adj l) (wtf ws) n) n v hv
    omega
/-- With a further edge the longest sum is no lesser. -/
theorem further_ge {l l' : List (Nat × Nat)} {n : Nat} (h : ∀ x ∈ l, x.1 < n ∧ x.2 < n) (h' : ∀ x ∈ l', x.1 < n ∧ x.2 < n) (hs : ∀ x ∈ l, x ∈ l') {ws : List Int} (he : lgE l n ws = 0) (he' : lgE l' n ws = 0) : (lgA l n ws).1 ≤ (lgA l' n ws).1 := by
  obtain ⟨-, -, E, ho⟩ := lgE_ok he
  obtain ⟨-, -, E', ho'⟩ := lgE_ok he'
  have r := ordr_rank (adj_lt h) ho
  have r' := ordr_rank (adj_lt h') ho'
  rw [lgA_1, lgA_1]
  by_cases hn : n = 0
  · rw [if_pos hn, if_pos hn]; exact Int.le_refl _
  · rw [if_neg hn, if_neg hn]
    have a := amx_lt (lgS (adj l) (wtf ws) n) n (by omega)
    have k := wider_le (adj_lt h) r.1 (lsm_lg (wtf ws) (adj_lt h) r) (lsm_lg (wtf ws) (adj_lt h') r') (fun v hv u hu => (mem_adj l' v u).2 (hs _ ((mem_adj l v u).1 hu))) _ (amx (lgS (adj l) (wtf ws) n) n) (Nat.le_refl _) a
    have := amx_max (lgS (adj l') (wtf ws) n) n _ a
    omega
/-- With a greater weight of one node the longest sum is no lesser, and greater by no more than that. -/
theorem heavier {l : List (Nat × Nat)} {n : Nat} (h : ∀ x ∈ l, x.1 < n ∧ x.2 < n) {ws ws' : List Int} {z : Nat} {m : Int} (hm : 0 ≤ m) (hz : wtf ws' z = wtf ws z + m) (hoo : ∀ v, v ≠ z → wtf ws' v = wtf ws v) (he : lgE l n ws = 0) (hn : n ≠ 0) :
    (lgA l n ws).1 ≤ (lgA l n ws').1 ∧ (lgA l n ws').1 ≤ (lgA l n ws).1 + m := by
  obtain ⟨-, -, E, ho⟩ := lgE_ok he
  have r := ordr_rank (adj_lt h) ho
  rw [lgA_1, lgA_1, if_neg hn, if_neg hn]
  have a := amx_lt (lgS (adj l) (wtf ws) n) n (by omega)
  have a' := amx_lt (lgS (adj l) (wtf ws') n) n (by omega)
  have m1 := lsm_lg (wtf ws) (adj_lt h) r
  have m2 := lsm_lg (wtf ws') (adj_lt h) r
  have k := heavy_ge (adj_lt h) r.1 m1 m2 (fun v hv => by by_cases e : v = z; · rw [e, hz]; omega
                                                          · rw [hoo v e]; exact Int.le_refl _) _ (amx (lgS (adj l) (wtf ws) n) n) (Nat.le_refl _) a
  have k2 := (heavy_le hm (adj_lt h) r.1 m1 m2 hz hoo _ (amx (lgS (adj l) (wtf ws') n) n) (Nat.le_refl _) a').1
  have x1 := amx_max (lgS (adj l) (wtf ws') n) n _ a
  have x2 := amx_max (lgS (adj l) (wtf ws) n) n _ a'
  constructor <;> omega
end
end Go.Proofs.Yteofbbakegcohaa
namespace Go.Proofs.Yteofbbakegcohaa
section
open Go.ChangeShapes Go.WideShapes Go.ChangeAt Go.RowKit
set_option linter.unusedVariables false
set_option linter.unusedSimpArgs false

theorem pth_of {n : Nat} {A : Nat → List Nat} : ∀ q : List Nat, (∀ i, i < q.length → q.getD i 0 < n ∧ (i = 0 ∨ q.getD i 0 ∈ A (q.getD (i - 1) 0))) → Pth n A q
  | [], _ => trivial
  | [v], h => (h 0 (by simp)).1
  | v :: u :: t, h => by
    have h0 := (h 0 (by simp)).1
    have h1 := h 1 (by simp)
    refine ⟨h0, ?_, pth_of (u :: t) fun i hi => ?_⟩
    · rcases h1.2 with e | e
      · cases e
      · exact e
    · have hh := h (i + 1) (by simpa using hi)
      refine ⟨hh.1, ?_⟩
      cases i with
      | zero => left; rfl
      | succ i =>
        right
        rcases hh.2 with e | e
        · cases e
        · exact e
theorem pth_to {n : Nat} {A : Nat → List Nat} : ∀ q : List Nat, Pth n A q → ∀ i, i < q.length → q.getD i 0 < n ∧ (i = 0 ∨ q.getD i 0 ∈ A (q.getD (i - 1) 0))
  | [], _, i, hi => by simp at hi
  | [v], h, i, hi => by
    have : i = 0 := by simp at hi; exact hi
    subst this
    exact ⟨h, .inl rfl⟩
  | v :: u :: t, h, i, hi => by
    obtain ⟨h0, h1, h2⟩ := h
    cases i with
    | zero => exact ⟨h0, .inl rfl⟩
    | succ i =>
      have k := pth_to (u :: t) h2 i (by simpa using hi)
      refine ⟨k.1, .inr ?_⟩
      cases i with
      | zero => exact h1
      | succ i =>
        rcases k.2 with e | e
        · cases e
        · exact e
theorem getD_toZ (q : List Nat) (i : Nat) : (toZ q).getD i 0 = ((q.getD i 0 : Nat) : Int) := by
  simp only [toZ, List.getD_eq_getElem?_getD, List.getElem?_map]
  cases q[i]? <;> rfl
theorem sumW_toZ (ws : List Int) (q : List Nat) : sumW ws (toZ q) = wsum (wtf ws) q := by
  unfold sumW wsum toZ
  rw [List.map_map]
  rfl
theorem cast2_iff (l : List (Nat × Nat)) (a b : Nat) : (((a : Int), (b : Int)) : Int × Int) ∈ cast2 l ↔ (a, b) ∈ l := by
  unfold cast2
  rw [List.mem_map]
  constructor
  · rintro ⟨x, hx, e⟩
    have e1 := congrArg Prod.fst e
    have e2 := congrArg Prod.snd e
    simp only at e1 e2
    have : x = (a, b) := Prod.ext (by omega) (by omega)
    rw [← this]; exact hx
  · exact fun h => ⟨_, h, rfl⟩
theorem okW_iff (n : Nat) (ws : List Int) (k : List (Nat × Nat)) (q : List Nat) (hl : ws.length = n) (i : Nat) :
    okW n ws (cast2 k) (toZ q) i = true ↔ q.getD i 0 < n ∧ (i = 0 ∨ q.getD i 0 ∈ adj k (q.getD (i - 1) 0)) := by
  unfold okW
  simp only [getD_toZ, Bool.and_eq_true, Bool.or_eq_true, decide_eq_true_eq, List.contains_iff_mem, cast2_iff, mem_adj]
  constructor
  · rintro ⟨⟨⟨h1, h2⟩, h3⟩, h4⟩
    exact ⟨by omega, h4⟩
  · rintro ⟨h1, h4⟩
    exact ⟨⟨⟨by omega, by omega⟩, by omega⟩, h4⟩
/-- The path of Longest is one, and has its sum. -/
theorem wgv_own (n : Nat) (ws : List Int) (k : List (Nat × Nat)) (q : List Nat) (hl : ws.length = n) (h : Pth n (adj k) q) : wgv n ws (cast2 k) (toZ q) = .tuple #[.int .i64 (wsum (wtf ws) q), .bool true] := by
  rw [wgv_all fun i hi => (okW_iff n ws k q hl i).2 (pth_to q h i (by simpa [toZ] using hi)), sumW_toZ]
/-- A path that is given: whether it is one, and no longer if it is. -/
theorem wgv_given (n : Nat) (ws : List Int) (k : List (Nat × Nat)) (path : List Int) (hx : ∀ x ∈ k, x.1 < n ∧ x.2 < n) (he : lgE k n ws = 0) :
    wgv n ws (cast2 k) path = .tuple #[.int .i64 0, .bool false] ∨ ∃ T, wgv n ws (cast2 k) path = .tuple #[.int .i64 T, .bool true] ∧ T ≤ (lgA k n ws).1 := by
  by_cases h : (List.range path.length).all (okW n ws (cast2 k) path) = true
  · right
    have hp : ∀ i, i < path.length → okW n ws (cast2 k) path i = true := fun i hi => List.all_eq_true.1 h i (List.mem_range.2 hi)
    obtain ⟨q, hq⟩ : ∃ q : List Nat, path = toZ q := by
      refine ⟨path.map Int.toNat, ?_⟩
      unfold toZ
      rw [List.map_map]
      refine List.ext_getElem (by simp) fun i h1 h2 => ?_
      have := hp i h1
      unfold okW at this
      simp only [Bool.and_eq_true, decide_eq_true_eq, gdI h1] at this
      simp only [List.getElem_map, Function.comp]
      have h0 := this.1.1.1
      show path[i] = ((path[i].toNat : Nat) : Int)
      omega
    subst hq
    have hl := (lgE_ok he).1
    refine ⟨wsum (wtf ws) q, ?_, given_le hx he q (pth_of q fun i hi => (okW_iff n ws k q hl i).1 (hp i (by simpa [toZ] using hi)))⟩
    rw [wgv_all hp, sumW_toZ]
  · left
    unfold wgv
    rw [if_neg h]
end
end Go.Proofs.Yteofbbakegcohaa
namespace Go.Proofs.Yteofbbakegcohaa
section
open Go.ChangeShapes Go.WideShapes Go.ChangeAt Go.RowKit
set_option linter.unusedVariables false
set_option linter.unusedSimpArgs false

/-- The three boxes that the law's closure reads. -/
def bx3 (w : World) (x y z : Value) : World := ((w.alloc (.cells #[x] 3)).alloc (.cells #[y] 22)).alloc (.cells #[z] 23)
theorem bx3_facts (w : World) (x y z : Value) : Below w.heap.size w (bx3 w x y z) ∧ (bx3 w x y z).cell? ⟨w.heap.size, 0, none⟩ = some x ∧ (bx3 w x y z).cell? ⟨w.heap.size + 1, 0, none⟩ = some y ∧ (bx3 w x y z).cell? ⟨w.heap.size + 2, 0, none⟩ = some z := by
  have s1 : (w.alloc (.cells #[x] 3)).heap.size = w.heap.size + 1 := Array.size_push _
  have s2 : ((w.alloc (.cells #[x] 3)).alloc (.cells #[y] 22)).heap.size = w.heap.size + 2 := by
    have : ((w.alloc (.cells #[x] 3)).alloc (.cells #[y] 22)).heap.size = (w.alloc (.cells #[x] 3)).heap.size + 1 := Array.size_push _
    omega
  have h1 := heap_alloc_new w (.cells #[x] 3)
  have h2 := heap_alloc_new (w.alloc (.cells #[x] 3)) (.cells #[y] 22)
  have h3 := heap_alloc_new ((w.alloc (.cells #[x] 3)).alloc (.cells #[y] 22)) (.cells #[z] 23)
  have c1 := cell_of_row _ w.heap.size 0 #[x] 3 (0, 0) h1
  have c2 := cell_of_row _ _ 0 #[y] 22 (0, 0) h2
  have c3 := cell_of_row _ _ 0 #[z] 23 (0, 0) h3
  rw [s1] at c2
  rw [s2] at c3
  have a1 := al1 (w.alloc (.cells #[x] 3)) (.cells #[y] 22)
  have a2 := al1 ((w.alloc (.cells #[x] 3)).alloc (.cells #[y] 22)) (.cells #[z] 23)
  refine ⟨al (al (al1 w _) _) _, ?_, ?_, ?_⟩
  · exact cell_later a2 (cell_later a1 (c1.trans rfl))
  · exact cell_later a2 (c2.trans rfl)
  · exact c3.trans rfl
set_option maxHeartbeats 8000000 in
set_option maxRecDepth 100000 in
theorem paths_early (p : Option Addr) (l : List (Int × Int)) (cap : Nat) (n : Int) (q : Option Addr) (os : List Int) (c : Nat) (q2 : Option Addr) (k c2 : Nat) (u v m : Int) (w : World) (hS : Sl w p l) (h : lrg n l.length = true ∨ lrg n l.length = false ∧ (100 < os.length ∨ os.length ≤ 100 ∧ 20 < k)) : Calls Try.prog 5 #[.int .i64 n, .slice p l.length cap, .slice q os.length c, .slice q2 k c2, .int .u8 u, .int .u8 v, .int .u16 m] w fun e w' => e = .returned (.bool true) ∧ Below w.heap.size w w' := by
  have hLg := fun W => large_any p l cap n W hS.2.2.1
  have CB := bx3_facts w (.int .i64 n) (.slice p l.length cap) (.slice q os.length c)
  obtain ⟨C0, C1, C2, C3⟩ := CB
  rcases h with h | ⟨h, h2 | ⟨h2, h3⟩⟩
  · rw [h] at hLg
    clear h
    go_enter Try.func5, Try.ntmps5
    go_wp2_with (first
      | (go_at_call 10; (with_reducible refine (awake_any _).mono ?_); rintro e w1 ⟨rfl, b1⟩; replace C1 := cell_later b1 C1; replace C2 := cell_later b1 C2; replace C3 := cell_later b1 C3; replace C0 := belows C0 b1; clear b1)
      | (go_at_call 11; (with_reducible refine (hLg _).mono ?_); rintro e w2 ⟨rfl, rfl⟩))
    go_ret
    exact ⟨rfl, C0⟩
  · rw [h] at hLg
    have g1 : decide ((100 : Int) < (os.length : Int)) = true := decide_eq_true (by omega)
    clear h h2
    go_enter Try.func5, Try.ntmps5
    go_wp2_with (first
      | (go_at_call 10; (with_reducible refine (awake_any _).mono ?_); rintro e w1 ⟨rfl, b1⟩; replace C1 := cell_later b1 C1; replace C2 := cell_later b1 C2; replace C3 := cell_later b1 C3; replace C0 := belows C0 b1; clear b1)
      | (go_at_call 11; (with_reducible refine (hLg _).mono ?_); rintro e w2 ⟨rfl, rfl⟩))
    go_ret
    exact ⟨rfl, C0⟩
  · rw [h] at hLg
    have g1 : decide ((100 : Int) < (os.length : Int)) = false := decide_eq_false (by omega)
    have g2 : decide ((20 : Int) < (k : Int)) = true := decide_eq_true (by omega)
    clear h h2 h3
    go_enter Try.func5, Try.ntmps5
    go_wp2_with (first
      | (go_at_call 10; (with_reducible refine (awake_any _).mono ?_); rintro e w1 ⟨rfl, b1⟩; replace C1 := cell_later b1 C1; replace C2 := cell_later b1 C2; replace C3 := cell_later b1 C3; replace C0 := belows C0 b1; clear b1)
      | (go_at_call 11; (with_reducible refine (hLg _).mono ?_); rintro e w2 ⟨rfl, rfl⟩))
    go_ret
    exact ⟨rfl, C0⟩
set_option maxHeartbeats 8000000 in
set_option maxRecDepth 100000 in
theorem paths_err (p : Option Addr) (l : List (Int × Int)) (cap : Nat) (n : Int) (q : Option Addr) (os : List Int) (c : Nat) (q2 : Option Addr) (k c2 : Nat) (u v m : Int) (w : World) (hS : Sl w p l) (hO : Rdz w (.slice q os.length c) os) (hlg : lrg n l.length = false) (ho : os.length ≤ 100) (hk : k ≤ 20) (le : Int) (hle : le ≠ 0)
    (h20 : ∀ W, Sl W p l → Rdz W (.slice q os.length c) os → Calls Try.prog 20 #[.int .i64 n, .slice p l.length cap, .slice q os.length c] W fun e w' => e = .returned (.tuple #[.int .i64 0, .slice none 0 0, .int .i64 le]) ∧ Below W.heap.size W w') :
    Calls Try.prog 5 #[.int .i64 n, .slice p l.length cap, .slice q os.length c, .slice q2 k c2, .int .u8 u, .int .u8 v, .int .u16 m] w fun e w' => e = .returned (.bool true) ∧ Below w.heap.size w w' := by
  have hLg := fun W => large_any p l cap n W hS.2.2.1
  have CB := bx3_facts w (.int .i64 n) (.slice p l.length cap) (.slice q os.length c)
  obtain ⟨C0, C1, C2, C3⟩ := CB
  rw [hlg] at hLg
  have g1 : decide ((100 : Int) < (os.length : Int)) = false := decide_eq_false (by omega)
  have g2 : decide ((20 : Int) < (k : Int)) = false := decide_eq_false (by omega)
  have g3 : (le != 0) = true := by simpa using hle
  clear hlg
  go_enter Try.func5, Try.ntmps5
  go_wp2_with (first
    | (go_at_call 10; (with_reducible refine (awake_any _).mono ?_); rintro e w1 ⟨rfl, b1⟩; replace C1 := cell_later b1 C1; replace C2 := cell_later b1 C2; replace C3 := cell_later b1 C3; replace C0 := belows C0 b1; clear b1; have hS1 := hS.on C0; have hO1 := hO.on C0)
    | (go_at_call 11; (with_reducible refine (hLg _).mono ?_); rintro e w2 ⟨rfl, rfl⟩)
    | (go_at_call 20; (with_reducible refine (h20 _ hS1 hO1).mono ?_); rintro e w3 ⟨rfl, b3⟩; replace C0 := belows C0 b3))
  go_ret
  exact ⟨rfl, C0⟩
end
end Go.Proofs.Yteofbbakegcohaa
namespace Go.Proofs.Yteofbbakegcohaa
section
open Go.ChangeShapes Go.WideShapes Go.ChangeAt Go.RowKit
set_option linter.unusedVariables false
set_option linter.unusedSimpArgs false

set_option maxHeartbeats 16000000 in
set_option maxRecDepth 100000 in
theorem paths_zero (p : Option Addr) (l : List (Int × Int)) (cap : Nat) (n : Int) (q : Option Addr) (os : List Int) (c : Nat) (q2 : Option Addr) (path : List Int) (c2 : Nat) (u v m : Int) (w : World) (hS : Sl w p l) (hO : Rdz w (.slice q os.length c) os) (hR0 : Hid (Rdz w (.slice q2 path.length c2) path)) (hlg : lrg n l.length = false) (ho : os.length ≤ 100) (hk : path.length ≤ 20)
    (hn0 : 0 ≤ n) (hn : n = 0) (S : Int) (PZ : List Int) (hPl : PZ.length ≤ 1000) (hpz : PZ.length = 0 ↔ n = 0) (hwb : ∀ x ∈ os, 0 ≤ x ∧ x ≤ 1073741824)
    (hown : wgv n os l PZ = .tuple #[.int .i64 S, .bool true]) (hg : wgv n os l path = .tuple #[.int .i64 0, .bool false] ∨ ∃ T, wgv n os l path = .tuple #[.int .i64 T, .bool true] ∧ T ≤ S)
    (h20 : ∀ W, Sl W p l → Rdz W (.slice q os.length c) os → Calls Try.prog 20 #[.int .i64 n, .slice p l.length cap, .slice q os.length c] W fun e w' => ∃ vp, e = .returned (.tuple #[.int .i64 S, vp, .int .i64 0]) ∧ Rdz w' vp PZ ∧ Below W.heap.size W w') :
    Calls Try.prog 5 #[.int .i64 n, .slice p l.length cap, .slice q os.length c, .slice q2 path.length c2, .int .u8 u, .int .u8 v, .int .u16 m] w fun e w' => e = .returned (.bool true) ∧ Below w.heap.size w w' := by
  have hLg := fun W => large_any p l cap n W hS.2.2.1
  have CB := bx3_facts w (.int .i64 n) (.slice p l.length cap) (.slice q os.length c)
  obtain ⟨C0, C1, C2, C3⟩ := CB
  have hR := hR0.out.on C0
  rw [hlg] at hLg
  have m1 : decide ((100 : Int) < (os.length : Int)) = false := decide_eq_false (by omega)
  have m2 : decide ((20 : Int) < (path.length : Int)) = false := decide_eq_false (by omega)
  have n1 : decide ((0 : Int) < n) = false := by subst hn; rfl
  have n2 : (n == 0) = true := by subst hn; rfl
  have p1 : ((PZ.length : Int) == 0) = true := by simp [hpz.2 hn]
  have hw1 : ∀ W qp cp, Rdz W (.slice qp PZ.length cp) PZ → W.cell? ⟨w.heap.size, 0, none⟩ = some (.int .i64 n) → W.cell? ⟨w.heap.size + 1, 0, none⟩ = some (.slice p l.length cap) → W.cell? ⟨w.heap.size + 2, 0, none⟩ = some (.slice q os.length c) → Rdz W (.slice q os.length c) os → Sl W p l →
      Calls Try.prog 23 #[.slice qp PZ.length cp, .pointer (some ⟨w.heap.size, 0, none⟩), .pointer (some ⟨w.heap.size + 2, 0, none⟩), .pointer (some ⟨w.heap.size + 1, 0, none⟩)] W fun e w' => e = .returned (.tuple #[.int .i64 S, .bool true]) ∧ Below W.heap.size W w' := fun W qp cp a b1 b2 b3 d f => by
    have := weigh_any _ PZ w.heap.size (w.heap.size + 2) (w.heap.size + 1) n q os c p l cap W a hPl b1 b3 b2 d (by omega) hwb f
    rw [hown] at this; exact this
  clear hlg hn hpz
  rcases hg with hg | ⟨T, hg, hT⟩
  ·
    have hw2 : ∀ W, Rdz W (.slice q2 path.length c2) path → W.cell? ⟨w.heap.size, 0, none⟩ = some (.int .i64 n) → W.cell? ⟨w.heap.size + 1, 0, none⟩ = some (.slice p l.length cap) → W.cell? ⟨w.heap.size + 2, 0, none⟩ = some (.slice q os.length c) → Rdz W (.slice q os.length c) os → Sl W p l →
        Calls Try.prog 23 #[.slice q2 path.length c2, .pointer (some ⟨w.heap.size, 0, none⟩), .pointer (some ⟨w.heap.size + 2, 0, none⟩), .pointer (some ⟨w.heap.size + 1, 0, none⟩)] W fun e w' => e = .returned (.tuple #[.int .i64 0, .bool false]) ∧ Below W.heap.size W w' := fun W a b1 b2 b3 d f => by
      have := weigh_any _ path w.heap.size (w.heap.size + 2) (w.heap.size + 1) n q os c p l cap W a (by omega) b1 b3 b2 d (by omega) hwb f
      rw [hg] at this; exact this
    clear hg hown hwb
    go_enter Try.func5, Try.ntmps5
    go_wp2_with (first
      | (go_at_call 10; (with_reducible refine (awake_any _).mono ?_); rintro e w1 ⟨rfl, b1⟩; replace C1 := cell_later b1 C1; replace C2 := cell_later b1 C2; replace C3 := cell_later b1 C3; replace C0 := belows C0 b1; clear b1; have hS1 := hS.on C0; have hO1 := hO.on C0)
      | (go_at_call 11; (with_reducible refine (hLg _).mono ?_); rintro e w2 ⟨rfl, rfl⟩)
      | (go_at_call 20; (with_reducible refine (h20 _ hS1 hO1).mono ?_); rintro e w3 ⟨vp, rfl, hP, b3⟩; obtain ⟨qp, cp, rfl, kp⟩ := hP; have hP : Rdz w3 (.slice qp PZ.length cp) PZ := ⟨qp, cp, rfl, kp⟩; clear kp; replace C0 := belows C0 b3; replace C1 := cell_later b3 C1; replace C2 := cell_later b3 C2; replace C3 := cell_later b3 C3; replace hS1 := hS.on C0; replace hO1 := hO.on C0; clear b3)
      | (go_at_call 23; (with_reducible refine (hw1 _ _ _ hP C1 C2 C3 hO1 hS1).mono ?_); rintro e w4 ⟨rfl, b4⟩; replace C0 := belows C0 b4; replace C1 := cell_later b4 C1; replace C2 := cell_later b4 C2; replace C3 := cell_later b4 C3; replace hS1 := hS.on C0; replace hO1 := hO.on C0; replace hR := hR0.out.on C0; clear b4 hP)
      | (go_at_call 23; (with_reducible refine (hw2 _ hR C1 C2 C3 hO1 hS1).mono ?_); rintro e w5 ⟨rfl, b5⟩; replace C0 := belows C0 b5; replace C1 := cell_later b5 C1; replace C2 := cell_later b5 C2; replace C3 := cell_later b5 C3; replace hS1 := hS.on C0; replace hO1 := hO.on C0; clear b5 hR))
    go_ret
    exact ⟨rfl, C0⟩
  ·
    have t1 : decide (S < T) = false := decide_eq_false (by omega)
    clear hT
    have hw2 : ∀ W, Rdz W (.slice q2 path.length c2) path → W.cell? ⟨w.heap.size, 0, none⟩ = some (.int .i64 n) → W.cell? ⟨w.heap.size + 1, 0, none⟩ = some (.slice p l.length cap) → W.cell? ⟨w.heap.size + 2, 0, none⟩ = some (.slice q os.length c) → Rdz W (.slice q os.length c) os → Sl W p l →
        Calls Try.prog 23 #[.slice q2 path.length c2, .pointer (some ⟨w.heap.size, 0, none⟩), .pointer (some ⟨w.heap.size + 2, 0, none⟩), .pointer (some ⟨w.heap.size + 1, 0, none⟩)] W fun e w' => e = .returned (.tuple #[.int .i64 T, .bool true]) ∧ Below W.heap.size W w' := fun W a b1 b2 b3 d f => by
      have := weigh_any _ path w.heap.size (w.heap.size + 2) (w.heap.size + 1) n q os c p l cap W a (by omega) b1 b3 b2 d (by omega) hwb f
      rw [hg] at this; exact this
    clear hg hown hwb
    go_enter Try.func5, Try.ntmps5
    go_wp2_with (first
      | (go_at_call 10; (with_reducible refine (awake_any _).mono ?_); rintro e w1 ⟨rfl, b1⟩; replace C1 := cell_later b1 C1; replace C2 := cell_later b1 C2; replace C3 := cell_later b1 C3; replace C0 := belows C0 b1; clear b1; have hS1 := hS.on C0; have hO1 := hO.on C0)
      | (go_at_call 11; (with_reducible refine (hLg _).mono ?_); rintro e w2 ⟨rfl, rfl⟩)
      | (go_at_call 20; (with_reducible refine (h20 _ hS1 hO1).mono ?_); rintro e w3 ⟨vp, rfl, hP, b3⟩; obtain ⟨qp, cp, rfl, kp⟩ := hP; have hP : Rdz w3 (.slice qp PZ.length cp) PZ := ⟨qp, cp, rfl, kp⟩; clear kp; replace C0 := belows C0 b3; replace C1 := cell_later b3 C1; replace C2 := cell_later b3 C2; replace C3 := cell_later b3 C3; replace hS1 := hS.on C0; replace hO1 := hO.on C0; clear b3)
      | (go_at_call 23; (with_reducible refine (hw1 _ _ _ hP C1 C2 C3 hO1 hS1).mono ?_); rintro e w4 ⟨rfl, b4⟩; replace C0 := belows C0 b4; replace C1 := cell_later b4 C1; replace C2 := cell_later b4 C2; replace C3 := cell_later b4 C3; replace hS1 := hS.on C0; replace hO1 := hO.on C0; replace hR := hR0.out.on C0; clear b4 hP)
      | (go_at_call 23; (with_reducible refine (hw2 _ hR C1 C2 C3 hO1 hS1).mono ?_); rintro e w5 ⟨rfl, b5⟩; replace C0 := belows C0 b5; replace C1 := cell_later b5 C1; replace C2 := cell_later b5 C2; replace C3 := cell_later b5 C3; replace hS1 := hS.on C0; replace hO1 := hO.on C0; clear b5 hR))
    go_ret
    exact ⟨rfl, C0⟩
end
end Go.Proofs.Yteofbbakegcohaa
namespace Go.Proofs.Yteofbbakegcohaa
section
open Go.ChangeShapes Go.WideShapes Go.ChangeAt Go.RowKit
set_option linter.unusedVariables false
set_option linter.unusedSimpArgs false

theorem cp_news {w : World} {a : Addr} {l : List (Int × Int)} (h : Fr w a l) : ∀ j u, (l.flatMap cp)[j]? = some u → w.cell? (a.add j) = some u := by
  intro j u hj
  have hjl := (List.getElem?_eq_some_iff.1 hj).1
  rw [flat_len2 cp 2 cpl] at hjl
  have hi : j / 2 < l.length := by omega
  have hc := h (j / 2) hi
  have hp := fun t ht => flat_at2 cp 2 cpl l (j / 2) hi t ht
  rcases Nat.mod_two_eq_zero_or_one j with e | e
  · have ej : j = j / 2 * 2 := by omega
    have h0 := hp 0 (by omega)
    rw [Nat.add_zero] at h0
    rw [ej, h0] at hj
    rw [ej, hc.1, ← hj]
    rfl
  · have ej : j = j / 2 * 2 + 1 := by omega
    rw [ej, hp 1 (by omega)] at hj
    have e2 : (⟨(a.add (j / 2 * 2)).block, (a.add (j / 2 * 2)).off + 1, none⟩ : Addr) = a.add (j / 2 * 2 + 1) := by
      rw [← Go.Deep.add_add]; simp [Addr.add]
    rw [ej, ← e2, hc.2, ← hj]
    rfl
theorem cp_one (l : List (Int × Int)) : ∀ u ∈ l.flatMap cp, u.oneCell' = true := by
  intro u hu
  obtain ⟨x, -, hx⟩ := List.mem_flatMap.1 hu
  simp [cp] at hx
  rcases hx with rfl | rfl <;> rfl
set_option maxRecDepth 100000 in
theorem pclone_any (p : Option Addr) (l : List (Int × Int)) (cap : Nat) (w : World) (hS : Sl w p l) (hl : l.length ≤ 1005) :
    Calls Try.prog 25 #[.slice p l.length cap] w fun e w' => ∃ v, e = .returned v ∧ OwnP w.heap.size w' v l ∧ Below w.heap.size w w' := by
  obtain ⟨i0, hi, hz0, hz1, hz2⟩ := info_parts info42
  have q22 : ∀ (w : World) (a : Option Addr) (n c n' c' : Nat), (binOp .eql 22 (.slice a n c) (.slice none n' c')).run Try.prog w = .ok (.bool a.isNone) w := fun w a n c n' c' => Lib.run_eql_slice_nil w _ _ a n c n' c' Try.underlying22
  cases p with
  | none =>
    have e := hS.1 rfl
    subst e
    go_enter Try.func25, Try.ntmps25
    go_wp2
    go_ret
    exact ⟨_, rfl, ⟨rfl, .inl ⟨rfl, rfl⟩⟩, Below.refl _ _⟩
  | some a =>
    have hF := hS.2.1 a rfl
    have HN := Lib.hid (cp_news (hF.on (al1 w (.cells #[] 42))))
    have HL := Lib.hid (flat_len2 cp 2 cpl l)
    have HO := cp_one l
    clear hF hS
    go_enter Try.func25, Try.ntmps25
    go_wp2_with (at_builtin; refine wpList_append_own_at _ rfl _ _ 22 rfl w.heap.size 42 i0 _ 2 16 Try.underlying22 hi hz0 hz1 hz2 rfl (by decide) _ 0 [] rfl (World.ownsRow_made w #[] 0 (Nat.le_refl _) (Nat.zero_le _) rfl) a l.length cap (l.flatMap cp) rfl HL.out HN.out HO (by unfold maxLen; omega) (by omega) (by simp) ?_)
    intro v' w2 o1 o2 o3 o4
    have b2 : Below w.heap.size w w2 := ((Below.refl _ w).alloc (Nat.le_refl _) _).grown o2 (by simp) (by intro k hk; simp [Value.ownBlock] at hk; omega)
    have O1 : OwnP w.heap.size w2 v' l := by
      unfold OwnP
      simpa using o1
    clear o1 o2 o3 o4
    go_wp2
    go_ret
    exact ⟨_, rfl, O1, b2⟩
end
end Go.Proofs.Yteofbbakegcohaa
namespace Go.Proofs.Yteofbbakegcohaa
section
open Go.ChangeShapes Go.WideShapes Go.ChangeAt Go.RowKit
set_option linter.unusedVariables false
set_option linter.unusedSimpArgs false

/-- A row of whole numbers of the call's own. -/
def OwnI (B : Nat) (w : World) (v : Value) (zs : List Int) : Prop := w.ownsRow B 3 1 v zs.length (zs.map (Value.int .i64))
theorem OwnI.rdz {B : Nat} {w : World} {v : Value} {zs : List Int} (h : OwnI B w v zs) : Rdz w v zs := by
  obtain ⟨hl2, ⟨rfl, h0⟩ | ⟨g, cap, cur, rfl, hB, hg, hn, hm, hs, ht⟩⟩ := h
  · exact ⟨none, 0, by rw [h0], fun j hj => by omega⟩
  · refine ⟨_, cap, rfl, fun j hj => ⟨_, rfl, ?_⟩⟩
    have ad : (⟨g, 0, none⟩ : Addr).add j = ⟨g, j, none⟩ := by unfold Addr.add; split <;> simp_all
    rw [ad, cell_of_row w g j cur 3 (0, 0) hg]
    have e : (zs.map (Value.int .i64))[j]? = some (.int .i64 zs[j]) := by simp [hj]
    rw [← e, ← ht, List.getElem?_take_of_lt (by omega), Array.getElem?_toList]
set_option maxRecDepth 100000 in
theorem zclone_any (q : Option Addr) (zs : List Int) (c : Nat) (w : World) (hO : Rdz w (.slice q zs.length c) zs) (hl : zs.length ≤ 1005) :
    Calls Try.prog 26 #[.slice q zs.length c] w fun e w' => ∃ v, e = .returned v ∧ OwnI w.heap.size w' v zs ∧ Below w.heap.size w w' := by
  obtain ⟨i0, hi, hz0, hz1, hz2⟩ := info_parts info3
  have q22 : ∀ (w : World) (a : Option Addr) (n c n' c' : Nat), (binOp .eql 23 (.slice a n c) (.slice none n' c')).run Try.prog w = .ok (.bool a.isNone) w := fun w a n c n' c' => Lib.run_eql_slice_nil w _ _ a n c n' c' Try.underlying23
  cases q with
  | none =>
    obtain ⟨q', c', e', k⟩ := hO
    simp only [Value.slice.injEq] at e'
    obtain ⟨rfl, -, rfl⟩ := e'
    have e : zs = [] := by
      cases zs with
      | nil => rfl
      | cons x t => obtain ⟨a, e, -⟩ := k 0 (by simp); cases e
    subst e
    go_enter Try.func26, Try.ntmps26
    go_wp2
    go_ret
    exact ⟨_, rfl, ⟨rfl, .inl ⟨rfl, rfl⟩⟩, Below.refl _ _⟩
  | some a =>
    have hR := hO.on (al1 w (.cells #[] 3))
    have HN : Hid (∀ j u, (zs.map (Value.int .i64))[j]? = some u → (w.alloc (.cells #[] 3)).cell? (a.add j) = some u) := Lib.hid fun j u hj => by
      obtain ⟨q', c', e', k⟩ := hR
      simp only [Value.slice.injEq] at e'
      obtain ⟨rfl, -, rfl⟩ := e'
      have hjl : j < zs.length := by have := (List.getElem?_eq_some_iff.1 hj).1; simpa using this
      obtain ⟨a', e, hc⟩ := k j hjl
      cases e
      rw [hc, ← hj]; simp [hjl]
    have HL : Hid ((zs.map (Value.int .i64)).length = zs.length * 1) := Lib.hid (by simp)
    have H1 : ∀ u ∈ zs.map (Value.int .i64), u.oneCell' = true := by
      intro u hu
      obtain ⟨x, -, rfl⟩ := List.mem_map.1 hu
      rfl
    clear hR hO
    go_enter Try.func26, Try.ntmps26
    go_wp2_with (at_builtin; refine wpList_append_own_at _ rfl _ _ 23 rfl w.heap.size 3 i0 _ 1 8 Try.underlying23 hi hz0 hz1 hz2 rfl (by decide) _ 0 [] rfl (World.ownsRow_made w #[] 0 (Nat.le_refl _) (Nat.zero_le _) rfl) a zs.length c (zs.map (Value.int .i64)) rfl HL.out HN.out H1 (by unfold maxLen; omega) (by omega) (by simp) ?_)
    intro v' w2 o1 o2 o3 o4
    have b2 : Below w.heap.size w w2 := ((Below.refl _ w).alloc (Nat.le_refl _) _).grown o2 (by simp) (by intro k hk; simp [Value.ownBlock] at hk; omega)
    have O1 : OwnI w.heap.size w2 v' zs := by
      unfold OwnI
      simpa using o1
    clear o1 o2 o3 o4
    go_wp2
    go_ret
    exact ⟨_, rfl, O1, b2⟩
end
end Go.Proofs.Yteofbbakegcohaa
namespace Go.Proofs.Yteofbbakegcohaa
section
open Go.ChangeShapes Go.WideShapes Go.ChangeAt Go.RowKit
set_option linter.unusedVariables false
set_option linter.unusedSimpArgs false

theorem ownI_put {B g n cap : Nat} {w : World} {zs : List Int} (h : OwnI B w (.slice (some ⟨g, 0, none⟩) n cap) zs) (hn : zs.length = n) (i : Nat) (y : Int) : OwnI B (w.setCell ⟨g, i, none⟩ (.int .i64 y)) (.slice (some ⟨g, 0, none⟩) n cap) (zs.set i y) := by
  obtain ⟨hl, ⟨h0, -⟩ | ⟨g', cap', cur, e', hB, hg, hn2, hm, hs, ht⟩⟩ := h
  · cases h0
  · simp only [Value.slice.injEq, Option.some.injEq, Addr.mk.injEq] at e'
    obtain ⟨⟨rfl, -⟩, e1, rfl⟩ := e'
    refine ⟨by simp, .inr ⟨_, _, cur.setIfInBounds i (.int .i64 y), by rw [List.length_set, hn], hB, ?_, by rw [List.length_set]; exact hn2, hm, by simpa using hs, ?_⟩⟩
    · simp [World.setCell, Array.getElem?_modify, hg]
    · rw [Array.toList_setIfInBounds, List.take_set, List.length_set, ht, List.map_set]
theorem ownI_fn {B : Nat} {w : World} {v : Value} {l : List Int} (h : OwnI B w v l) (h0 : 0 < l.length) : ∃ g cap, v = .slice (some ⟨g, 0, none⟩) l.length cap ∧ B ≤ g ∧ g < w.heap.size := by
  obtain ⟨hl2, ⟨rfl, h0'⟩ | ⟨g, cap, cur, rfl, hB, hg, hn, hm, hs, ht⟩⟩ := h
  · omega
  · exact ⟨g, cap, rfl, hB, (Array.getElem?_eq_some_iff.1 hg).1⟩
theorem ownI_cell {B g n cap : Nat} {w : World} {l : List Int} (h : OwnI B w (.slice (some ⟨g, 0, none⟩) n cap) l) {i : Nat} (hi : i < l.length) : w.cell? ⟨g, i, none⟩ = some (.int .i64 (l.getD i 0)) ∧ w.frozen? ⟨g, i, none⟩ = false := by
  obtain ⟨q, c, e, k⟩ := h.rdz
  simp only [Value.slice.injEq] at e
  obtain ⟨rfl, -, rfl⟩ := e
  obtain ⟨a, e, hc⟩ := k i hi
  cases e
  rw [Addr.add_lit, Nat.zero_add] at hc
  refine ⟨by rw [hc, List.getD_eq_getElem?_getD, List.getElem?_eq_getElem hi]; rfl, ?_⟩
  obtain ⟨hl2, ⟨h0, -⟩ | ⟨g', cap', cur, e', hB, hg, hn, hm, hs, ht⟩⟩ := h
  · cases h0
  · simp only [Value.slice.injEq, Option.some.injEq, Addr.mk.injEq] at e'
    obtain ⟨⟨rfl, -⟩, -, rfl⟩ := e'
    simp [World.frozen?, hg]
end
end Go.Proofs.Yteofbbakegcohaa
