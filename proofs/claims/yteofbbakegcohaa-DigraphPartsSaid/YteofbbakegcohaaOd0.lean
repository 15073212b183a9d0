/- The order of a graph: what it is, and how many edges lead to a node. -/
import Derived.Test.YteofbbakegcohaaNg
namespace Go.Proofs.Yteofbbakegcohaa
open Go.ChangeShapes Go.WideShapes Go.ChangeAt Go.RowKit
set_option linter.unusedVariables false
set_option linter.unusedSimpArgs false


/-- Whether node x may come next. -/
def fre (A : Nat → List Nat) (n : Nat) (D : List Nat) (x : Nat) : Bool := !D.contains x && (List.range n).all fun v => D.contains v || !(A v).contains x
def nxt (A : Nat → List Nat) (n : Nat) (D : List Nat) : Option Nat := (List.range n).find? (fre A n D)
def ordr (A : Nat → List Nat) (n : Nat) : Nat → List Nat → Option (List Nat)
  | 0, D => some D
  | k + 1, D => match nxt A n D with
    | none => none
    | some x => ordr A n k (D ++ [x])
def cin (A : Nat → List Nat) (n : Nat) (D : List Nat) (x : Nat) : Nat := ((List.range n).map fun v => if D.contains v then 0 else (A v).count x).sum
def bef (A : Nat → List Nat) (n : Nat) (D : List Nat) (x : Nat) : Int := if D.contains x then -1 else (cin A n D x : Int)
theorem sum_zero (xs : List Nat) (f : Nat → Nat) : (xs.map f).sum = 0 ↔ ∀ x ∈ xs, f x = 0 := by
  induction xs with
  | nil => simp
  | cons a t ih => simp [ih]
theorem sum_le (xs : List Nat) (f : Nat → Nat) (m : Nat) (h : ∀ x ∈ xs, f x ≤ m) : (xs.map f).sum ≤ m * xs.length := by
  induction xs with
  | nil => simp
  | cons a t ih =>
    have h1 := h a (by simp)
    have h2 := ih fun x hx => h x (by simp [hx])
    simp only [List.map_cons, List.sum_cons, List.length_cons]
    rw [Nat.mul_succ]; omega
theorem sum_change (xs : List Nat) (f g : Nat → Nat) (a c : Nat) (hn : xs.Nodup) (ha : a ∈ xs) (h1 : ∀ x ∈ xs, x ≠ a → f x = g x) (h2 : f a = g a + c) : (xs.map f).sum = (xs.map g).sum + c := by
  induction xs with
  | nil => cases ha
  | cons b t ih =>
    rw [List.nodup_cons] at hn
    simp only [List.map_cons, List.sum_cons]
    by_cases e : b = a
    · subst e
      have : t.map f = t.map g := List.map_congr_left fun x hx => h1 x (by simp [hx]) (by rintro rfl; exact hn.1 hx)
      rw [this]; omega
    · have := ih hn.2 (by rcases List.mem_cons.1 ha with h | h; (focus exact absurd h.symm e); exact h) (fun x hx => h1 x (by simp [hx]))
      rw [h1 b (by simp) e]; omega
theorem cin_le (A : Nat → List Nat) (n : Nat) (D : List Nat) (x m : Nat) (h : ∀ v, (A v).length ≤ m) : cin A n D x ≤ m * n := by
  have := sum_le (List.range n) (fun v => if D.contains v then 0 else (A v).count x) m (fun v _ => by
    split
    · omega
    · exact Nat.le_trans List.count_le_length (h v))
  rw [List.length_range] at this
  exact this
theorem bef_bd (A : Nat → List Nat) (n : Nat) (D : List Nat) (x m : Nat) (h : ∀ v, (A v).length ≤ m) : -1 ≤ bef A n D x ∧ bef A n D x ≤ m * n := by
  have := cin_le A n D x m h
  unfold bef
  have e : ((m * n : Nat) : Int) = (m : Int) * (n : Int) := Int.natCast_mul m n
  split
  · constructor
    · omega
    · rw [← e]; omega
  · constructor
    · omega
    · rw [← e]; omega
theorem bef_zero (A : Nat → List Nat) (n : Nat) (D : List Nat) (x : Nat) : bef A n D x = 0 ↔ fre A n D x = true := by
  unfold bef fre
  cases h : D.contains x
  · simp only [Bool.false_eq_true, if_false, Bool.not_false, Bool.true_and]
    have := sum_zero (List.range n) fun v => if D.contains v then 0 else (A v).count x
    unfold cin
    rw [show (((List.map (fun v => if D.contains v then 0 else (A v).count x) (List.range n)).sum : Nat) : Int) = 0 ↔ (List.map (fun v => if D.contains v then 0 else (A v).count x) (List.range n)).sum = 0 by omega, this, List.all_eq_true]
    refine forall_congr' fun v => forall_congr' fun _ => ?_
    cases hd : D.contains v
    · simp [List.count_eq_zero]
    · simp
  · simp
/-- No edge leads from elsewhere to a node of the list. -/
def Clo (A : Nat → List Nat) (n : Nat) (D : List Nat) : Prop := ∀ x ∈ D, ∀ v, v < n → v ∉ D → x ∉ A v
theorem fre_iff (A : Nat → List Nat) (n : Nat) (D : List Nat) (x : Nat) : fre A n D x = true ↔ x ∉ D ∧ ∀ v, v < n → v ∉ D → x ∉ A v := by
  unfold fre
  rw [Bool.and_eq_true, List.all_eq_true]
  refine and_congr (by simp) ⟨fun h v hv hd => ?_, fun h v hv => ?_⟩
  · have := h v (List.mem_range.2 hv)
    simp [hd] at this
    exact this
  · by_cases hd : v ∈ D
    · simp [hd]
    · simp [h v (List.mem_range.1 hv) hd]
theorem Clo.snoc {A : Nat → List Nat} {n : Nat} {D : List Nat} {x : Nat} (h : Clo A n D) (hx : fre A n D x = true) : Clo A n (D ++ [x]) := by
  have k := (fre_iff A n D x).1 hx
  intro y hy v hv hd
  have hd1 : v ∉ D := fun h => hd (by simp [h])
  rcases List.mem_append.1 hy with hy | hy
  · exact h y hy v hv hd1
  · rw [List.mem_singleton.1 hy]; exact k.2 v hv hd1
/-- Where the numbers stand behind j edges of the node that is put into the order. -/
def mdl (A : Nat → List Nat) (n : Nat) (D : List Nat) (node j x : Nat) : Int := (if x = node then -1 else bef A n D x) - (((A node).take j).count x : Nat)
theorem mdl_zero (A : Nat → List Nat) (n : Nat) (D : List Nat) (node x : Nat) : mdl A n D node 0 x = upd (bef A n D) node (-1) x := by
  unfold mdl upd; simp
theorem mdl_next {A : Nat → List Nat} {n : Nat} {D : List Nat} {node j : Nat} (hj : j < (A node).length) (x : Nat) : upd (mdl A n D node j) (A node)[j] (mdl A n D node j (A node)[j] - 1) x = mdl A n D node (j + 1) x := by
  unfold upd mdl
  rw [List.take_succ_eq_append_getElem hj, List.count_append]
  by_cases h : x = (A node)[j]
  · subst h; simp <;> omega
  · simp [h, Ne.symm h]
theorem mdl_end {A : Nat → List Nat} {n : Nat} {D : List Nat} {node : Nat} (hn : node < n) (hC : Clo A n D) (hf : fre A n D node = true) (x : Nat) : mdl A n D node (A node).length x = bef A n (D ++ [node]) x := by
  have k := (fre_iff A n D node).1 hf
  unfold mdl
  rw [List.take_length]
  by_cases h : x = node
  · subst h
    rw [if_pos rfl, List.count_eq_zero.2 (k.2 x hn k.1)]
    simp [bef]
  · rw [if_neg h]
    by_cases hd : x ∈ D
    · rw [List.count_eq_zero.2 (hC x hd node hn k.1)]
      simp [bef, hd]
    · have e : cin A n D x = cin A n (D ++ [node]) x + (A node).count x := by
        unfold cin
        refine sum_change (List.range n) _ _ node _ List.nodup_range (List.mem_range.2 hn) (fun v _ hv => ?_) ?_
        · simp [hv]
        · simp [k.1]
      simp [bef, hd, h, e] <;> omega
/-- The place of the first node that may come next. -/
theorem ixo_nxt (A : Nat → List Nat) (n : Nat) (D : List Nat) : ixo ((List.range n).map (bef A n D)) 0 = match nxt A n D with | some x => (x : Int) | none => -1 := by
  unfold nxt
  cases h : (List.range n).find? (fre A n D) with
  | none =>
    have := List.find?_eq_none.1 h
    refine findIdx_none fun j hj e => ?_
    simp only [List.length_map, List.length_range] at hj
    rw [List.getElem_map, List.getElem_range] at e
    exact this j (List.mem_range.2 hj) ((bef_zero A n D j).1 e)
  | some x =>
    have hp := List.find?_some h
    have hm := List.mem_range.1 (List.mem_of_find?_eq_some h)
    have hb : ∀ j, j < x → fre A n D j = false := fun j hj => by
      obtain ⟨_, i, hi, e1, e2⟩ := List.find?_eq_some_iff_getElem.1 h
      rw [List.getElem_range] at e1
      subst e1
      have := e2 j hj
      rw [List.getElem_range] at this
      simpa using this
    refine findIdx_some (by simpa using hm) (fun j hj hjx e => ?_) ?_
    · rw [List.getElem_map, List.getElem_range] at e
      have := (bef_zero A n D j).1 e
      rw [hb j hjx] at this
      cases this
    · rw [List.getElem_map, List.getElem_range]
      exact (bef_zero A n D x).2 hp
theorem nxt_some {A : Nat → List Nat} {n : Nat} {D : List Nat} {x : Nat} (h : nxt A n D = some x) : x < n ∧ fre A n D x = true := ⟨List.mem_range.1 (List.mem_of_find?_eq_some h), List.find?_some h⟩
/-- The numbers behind the first k nodes, and j edges of the next one. -/
def cpre (A : Nat → List Nat) (k j x : Nat) : Int := (((List.range k).map fun v => (A v).count x).sum : Nat) + (((A k).take j).count x : Nat)
theorem cpre_zero (A : Nat → List Nat) (x : Nat) : cpre A 0 0 x = 0 := by simp [cpre]
theorem cpre_next {A : Nat → List Nat} {k j : Nat} (hj : j < (A k).length) (x : Nat) : upd (cpre A k j) (A k)[j] (cpre A k j (A k)[j] + 1) x = cpre A k (j + 1) x := by
  unfold upd cpre
  rw [List.take_succ_eq_append_getElem hj, List.count_append]
  by_cases h : x = (A k)[j]
  · subst h; simp <;> omega
  · simp [h, Ne.symm h]
theorem cpre_row (A : Nat → List Nat) (k x : Nat) : cpre A k (A k).length x = cpre A (k + 1) 0 x := by
  unfold cpre
  rw [List.range_succ, List.map_append, List.sum_append]
  simp
theorem cpre_end (A : Nat → List Nat) (n x : Nat) : cpre A n 0 x = bef A n [] x := by
  simp [cpre, bef, cin]
theorem cpre_bd (A : Nat → List Nat) (k j x m : Nat) (h : ∀ v, (A v).length ≤ m) : 0 ≤ cpre A k j x ∧ cpre A k j x ≤ ((m * k + m : Nat) : Int) := by
  have h1 := sum_le (List.range k) (fun v => (A v).count x) m (fun v _ => Nat.le_trans List.count_le_length (h v))
  rw [List.length_range] at h1
  have h2 : ((A k).take j).count x ≤ m := Nat.le_trans List.count_le_length (Nat.le_trans (by rw [List.length_take]; omega) (h k))
  unfold cpre
  constructor <;> omega
theorem mdl_bd (A : Nat → List Nat) (n : Nat) (D : List Nat) (node j x m : Nat) (h : ∀ v, (A v).length ≤ m) : -1 - (m : Int) ≤ mdl A n D node j x ∧ mdl A n D node j x ≤ m * n := by
  have h1 := bef_bd A n D x m h
  have h2 : ((A node).take j).count x ≤ m := Nat.le_trans List.count_le_length (Nat.le_trans (by rw [List.length_take]; omega) (h node))
  have h3 : (0 : Int) ≤ (m : Int) * (n : Int) := Int.mul_nonneg (by omega) (by omega)
  unfold mdl
  split <;> constructor <;> omega
theorem ordr_len {A : Nat → List Nat} {n : Nat} : ∀ {k : Nat} {D E : List Nat}, ordr A n k D = some E → E.length = D.length + k
  | 0, D, E, h => by simp [ordr] at h; rw [h]; rfl
  | k + 1, D, E, h => by
    unfold ordr at h
    cases hx : nxt A n D with
    | none => rw [hx] at h; cases h
    | some x =>
      rw [hx] at h
      have := ordr_len h
      rw [List.length_append] at this
      simp at this; omega
end Go.Proofs.Yteofbbakegcohaa
