/- Longest paths: what they are, as far as a graph has an order. -/
import Derived.Test.YteofbbakegcohaaRo
namespace Go.Proofs.Yteofbbakegcohaa
open Go.ChangeShapes Go.WideShapes Go.ChangeAt Go.RowKit
set_option linter.unusedVariables false
set_option linter.unusedSimpArgs false


theorem ordr_split {A : Nat → List Nat} {n : Nat} : ∀ {k : Nat} {D E : List Nat}, ordr A n k D = some E → ∃ T, E = D ++ T ∧ T.length = k ∧ ∀ T1 x T2, T = T1 ++ x :: T2 → x < n ∧ fre A n (D ++ T1) x = true
  | 0, D, E, h => ⟨[], by simp [ordr] at h; simp [h], rfl, fun T1 x T2 e => by cases T1 <;> cases e⟩
  | k + 1, D, E, h => by
    unfold ordr at h
    cases hx : nxt A n D with
    | none => rw [hx] at h; cases h
    | some x =>
      rw [hx] at h
      obtain ⟨T, e, hl, hT⟩ := ordr_split h
      refine ⟨x :: T, by rw [e]; simp, by simp [hl], fun T1 y T2 e2 => ?_⟩
      cases T1 with
      | nil =>
        simp only [List.nil_append, List.cons.injEq] at e2
        obtain ⟨rfl, -⟩ := e2
        rw [List.append_nil]
        exact nxt_some hx
      | cons a t =>
        simp only [List.cons_append, List.cons.injEq] at e2
        obtain ⟨rfl, e3⟩ := e2
        have := hT t y T2 e3
        rw [List.append_assoc] at this
        exact this
theorem ordr_nodup {A : Nat → List Nat} {n : Nat} {E : List Nat} (h : ordr A n n [] = some E) : E.Nodup ∧ E.length = n ∧ (∀ x ∈ E, x < n) ∧ ∀ x, x < n → x ∈ E := by
  obtain ⟨T, e, hl, hT⟩ := ordr_split h
  rw [List.nil_append] at e
  subst e
  have lt : ∀ x ∈ E, x < n := fun x hx => by
    obtain ⟨T1, T2, e⟩ := List.append_of_mem hx
    exact (hT T1 x T2 e).1
  have nd : E.Nodup := by
    have key : ∀ m, (E.take m).Nodup := by
      intro m
      induction m with
      | zero => simp
      | succ m ih =>
        by_cases hm : m < E.length
        · have e : E = E.take m ++ E[m] :: E.drop (m + 1) := by rw [← List.drop_eq_getElem_cons hm, List.take_append_drop]
          have h2 := hT _ _ _ e
          rw [List.nil_append] at h2
          have h3 := ((fre_iff A n _ _).1 h2.2).1
          rw [List.take_succ_eq_append_getElem hm, List.nodup_append]
          exact ⟨ih, by simp, fun a ha b hb => by simp at hb; subst hb; rintro rfl; exact h3 ha⟩
        · rw [List.take_of_length_le (by omega)] at ih ⊢
          exact ih
    have := key E.length
    rw [List.take_length] at this
    exact this
  exact ⟨nd, hl, lt, fun x hx => nodup_all nd lt hl hx⟩
/-- A number for each node that is less behind each edge. -/
def Rnk (A : Nat → List Nat) (n : Nat) (rk : Nat → Nat) : Prop := (∀ v, v < n → ∀ u ∈ A v, rk u < rk v) ∧ ∀ v, rk v ≤ n
theorem ordr_rank {A : Nat → List Nat} {n : Nat} {E : List Nat} (hA : ∀ v, v < n → ∀ u ∈ A v, u < n) (h : ordr A n n [] = some E) : Rnk A n fun v => n - E.idxOf v := by
  obtain ⟨nd, hl, lt, all⟩ := ordr_nodup h
  obtain ⟨T, e, -, hT⟩ := ordr_split h
  rw [List.nil_append] at e
  subst e
  refine ⟨fun v hv u hu => ?_, fun v => Nat.sub_le _ _⟩
  have hun := hA v hv u hu
  obtain ⟨T1, T2, e⟩ := List.append_of_mem (all u hun)
  have h2 := (hT T1 u T2 e).2
  rw [List.nil_append] at h2
  have h3 := (fre_iff A n T1 u).1 h2
  have hv1 : v ∈ T1 := by
    by_cases hm : v ∈ T1
    · exact hm
    · exact absurd hu (h3.2 v hv hm)
  have i1 : E.idxOf v < T1.length := by
    rw [e, List.idxOf_append, if_pos hv1]
    exact List.idxOf_lt_length_of_mem hv1
  have i2 : E.idxOf u = T1.length := by
    rw [e, List.idxOf_append, if_neg h3.1]
    simp
  have i3 : T1.length < n := by rw [← hl, e]; simp
  show n - E.idxOf u < n - E.idxOf v
  omega
/-- One edge more on the way to the longest path from a node. -/
def stepL (W S : Nat → Int) (v : Nat) (cur : Int × Option Nat) (u : Nat) : Int × Option Nat := if cur.1 < W v + S u then (W v + S u, some u) else cur
def lg (A : Nat → List Nat) (W : Nat → Int) : Nat → Nat → Int × Option Nat
  | 0, v => (W v, none)
  | k + 1, v => (A v).foldl (stepL W (fun u => (lg A W k u).1) v) (W v, none)
theorem fold_cong {α β : Type} (f g : β → α → β) (xs : List α) (h : ∀ x ∈ xs, ∀ b, f b x = g b x) : ∀ b, xs.foldl f b = xs.foldl g b := by
  induction xs with
  | nil => intro b; rfl
  | cons a t ih =>
    intro b
    rw [List.foldl_cons, List.foldl_cons, h a (by simp)]
    exact ih (fun x hx => h x (by simp [hx])) _
theorem lg_stable {A : Nat → List Nat} {n : Nat} {rk : Nat → Nat} (W : Nat → Int) (hA : ∀ v, v < n → ∀ u ∈ A v, u < n) (hr : Rnk A n rk) : ∀ (k k' v : Nat), v < n → rk v ≤ k → rk v ≤ k' → lg A W k v = lg A W k' v := by
  have nil : ∀ v, v < n → rk v = 0 → A v = [] := fun v hv h => by
    cases e : A v with
    | nil => rfl
    | cons u t => have := hr.1 v hv u (by rw [e]; simp); omega
  intro k
  induction k with
  | zero =>
    intro k' v hv h1 h2
    have := nil v hv (by omega)
    cases k' with
    | zero => rfl
    | succ k' => simp [lg, this]
  | succ k ih =>
    intro k' v hv h1 h2
    cases k' with
    | zero => simp [lg, nil v hv (by omega)]
    | succ k' =>
      unfold lg
      refine fold_cong _ _ _ (fun u hu b => ?_) _
      have := hr.1 v hv u hu
      have e := ih k' u (hA v hv u hu) (by omega) (by omega)
      simp only [stepL, e]
def lgS (A : Nat → List Nat) (W : Nat → Int) (n v : Nat) : Int := (lg A W n v).1
def lgN (A : Nat → List Nat) (W : Nat → Int) (n v : Nat) : Option Nat := (lg A W n v).2
theorem lg_rec {A : Nat → List Nat} {n : Nat} {rk : Nat → Nat} (W : Nat → Int) (hA : ∀ v, v < n → ∀ u ∈ A v, u < n) (hr : Rnk A n rk) {v : Nat} (hv : v < n) : lg A W n v = (A v).foldl (stepL W (lgS A W n) v) (W v, none) := by
  rw [lg_stable W hA hr n (n + 1) v hv (hr.2 v) (by have := hr.2 v; omega)]
  rfl
theorem stepL_fold (W S : Nat → Int) (v : Nat) : ∀ (xs : List Nat) (cur : Int × Option Nat), (∀ u, cur.2 = some u → cur.1 = W v + S u) → let r := xs.foldl (stepL W S v) cur; cur.1 ≤ r.1 ∧ (∀ u ∈ xs, W v + S u ≤ r.1) ∧ (r = cur ∨ ∃ u ∈ xs, r = (W v + S u, some u) ∧ cur.1 < W v + S u)
  | [], cur, _ => ⟨Int.le_refl _, (fun u h => by cases h), .inl rfl⟩
  | a :: t, cur, hc => by
    rw [List.foldl_cons]
    by_cases h : cur.1 < W v + S a
    · have e : stepL W S v cur a = (W v + S a, some a) := by unfold stepL; rw [if_pos h]
      rw [e]
      have k := stepL_fold W S v t (W v + S a, some a) (fun u hu => by simp at hu; subst hu; rfl)
      obtain ⟨k1, k2, k3⟩ := k
      simp only at k1
      refine ⟨by omega, fun u hu => ?_, .inr ?_⟩
      · rcases List.mem_cons.1 hu with rfl | hu
        · exact k1
        · exact k2 u hu
      · rcases k3 with k3 | ⟨u, hu, k3, k4⟩
        · exact ⟨a, by simp, k3, h⟩
        · exact ⟨u, by simp [hu], k3, by simp only at k4; omega⟩
    · have e : stepL W S v cur a = cur := by unfold stepL; rw [if_neg h]
      rw [e]
      obtain ⟨k1, k2, k3⟩ := stepL_fold W S v t cur hc
      refine ⟨k1, fun u hu => ?_, ?_⟩
      · rcases List.mem_cons.1 hu with rfl | hu
        · omega
        · exact k2 u hu
      · rcases k3 with k3 | ⟨u, hu, k3⟩
        · exact .inl k3
        · exact .inr ⟨u, by simp [hu], k3⟩
/-- What the longest paths are: bounds. -/
theorem lg_bd (A : Nat → List Nat) (W : Nat → Int) (hW : ∀ v, 0 ≤ W v ∧ W v ≤ 1073741824) : ∀ k v, 0 ≤ (lg A W k v).1 ∧ (lg A W k v).1 ≤ 1073741824 * ((k : Int) + 1)
  | 0, v => by have := hW v; simp only [lg]; omega
  | k + 1, v => by
    have h := hW v
    obtain ⟨h1, h2, h3⟩ := stepL_fold W (fun u => (lg A W k u).1) v (A v) (W v, none) (fun u hu => by cases hu)
    unfold lg
    simp only at h1
    refine ⟨by omega, ?_⟩
    rcases h3 with h3 | ⟨u, -, h3, -⟩
    · rw [h3]; simp only; omega
    · rw [h3]
      have := lg_bd A W hW k u
      simp only; omega
/-- The first of the nodes from which the paths are longest. -/
def amx (S : Nat → Int) : Nat → Nat
  | 0 => 0
  | k + 1 => if S (amx S k) < S k then k else amx S k
theorem amx_lt (S : Nat → Int) : ∀ k, 0 < k → amx S k < k
  | k + 1, _ => by
    unfold amx
    split
    · omega
    · cases k with
      | zero => simp [amx]
      | succ k => have := amx_lt S (k + 1) (by omega); omega
/-- The path from a node on. -/
def chn (Nx : Nat → Option Nat) : Nat → Nat → List Nat
  | 0, _ => []
  | k + 1, v => v :: match Nx v with | none => [] | some u => chn Nx k u
theorem lgN_mem {A : Nat → List Nat} {n : Nat} {rk : Nat → Nat} (W : Nat → Int) (hA : ∀ v, v < n → ∀ u ∈ A v, u < n) (hr : Rnk A n rk) {v : Nat} (hv : v < n) {u : Nat} (h : lgN A W n v = some u) : u ∈ A v ∧ lgS A W n v = W v + lgS A W n u ∧ 0 < lgS A W n u := by
  obtain ⟨h1, h2, h3⟩ := stepL_fold W (lgS A W n) v (A v) (W v, none) (fun u hu => by cases hu)
  have e := lg_rec W hA hr hv
  unfold lgN at h
  rw [e] at h
  rcases h3 with h3 | ⟨x, hx, h3, h4⟩
  · rw [h3] at h; cases h
  · rw [h3] at h
    simp only [Option.some.injEq] at h
    subst h
    refine ⟨hx, ?_, by simp only at h4; omega⟩
    show (lg A W n v).1 = _
    rw [e, h3]
end Go.Proofs.Yteofbbakegcohaa
