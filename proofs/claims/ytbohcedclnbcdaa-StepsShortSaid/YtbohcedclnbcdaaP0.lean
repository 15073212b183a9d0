/- Pure: steps, their function, two lists gone through together, short steps. -/
import Derived.Test.YtbohcedclnbcdaaEd
namespace Go.Proofs.Ytbohcedclnbcdaa
set_option linter.unusedVariables false
set_option linter.unusedSimpArgs false

abbrev Stp := Int × Int
def plc (x : Int) : Bool := decide (-1048576 ≤ x) && decide (x ≤ 1048576)
def ara (v : Int) : Bool := decide (0 ≤ v) && decide (v ≤ 1099511627776)
def Asc (l : List Stp) : Prop := l.Pairwise (fun a b => a.1 < b.1)
structure OkS (l : List Stp) : Prop where
  len : l.length ≤ 200
  pl : ∀ s ∈ l, plc s.1 = true
  ar : ∀ s ∈ l, ara s.2 = true
  asc : Asc l
/-- The value of the function, v ahead of the first step. -/
def vaF (v : Int) : List Stp → Int → Int
  | [], _ => v
  | s :: l, x => vaF (if s.1 ≤ x then s.2 else v) l x
def va (l : List Stp) (x : Int) : Int := vaF 0 l x
theorem vaF_lt {l : List Stp} {v y : Int} (h : ∀ s ∈ l, y < s.1) : vaF v l y = v := by
  induction l generalizing v with
  | nil => rfl
  | cons s l ih =>
    have h1 := h s (by simp)
    rw [vaF, if_neg (by omega)]
    exact ih fun t ht => h t (by simp [ht])
theorem vaF_mem {l : List Stp} {v y : Int} : vaF v l y = v ∨ ∃ s ∈ l, vaF v l y = s.2 := by
  induction l generalizing v with
  | nil => exact .inl rfl
  | cons s l ih =>
    rw [vaF]
    split
    · rcases ih (v := s.2) with h | ⟨t, ht, h⟩
      · exact .inr ⟨s, by simp, h⟩
      · exact .inr ⟨t, by simp [ht], h⟩
    · rcases ih (v := v) with h | ⟨t, ht, h⟩
      · exact .inl h
      · exact .inr ⟨t, by simp [ht], h⟩
theorem va_ara {l : List Stp} (h : ∀ s ∈ l, ara s.2 = true) (x : Int) : ara (va l x) = true := by
  rcases vaF_mem (l := l) (v := 0) (y := x) with e | ⟨s, hs, e⟩
  · unfold va; rw [e]; decide
  · unfold va; rw [e]; exact h s hs
theorem ara_iff (v : Int) : ara v = true ↔ 0 ≤ v ∧ v ≤ 1099511627776 := by unfold ara; simp
theorem plc_iff (v : Int) : plc v = true ↔ -1048576 ≤ v ∧ v ≤ 1048576 := by unfold plc; simp
/-- The next From of two lists. -/
def nx : List Stp → List Stp → Option Int
  | s :: _, t :: _ => some (min s.1 t.1)
  | s :: _, [] => some s.1
  | [], t :: _ => some t.1
  | [], [] => none
/-- What a list is behind x, and its value there. -/
def ad (x p : Int) : List Stp → Int × List Stp
  | [] => (p, [])
  | s :: l => if s.1 = x then (s.2, l) else (p, s :: l)
theorem ad_yes {x p : Int} {s : Stp} {l : List Stp} (e : s.1 = x) : ad x p (s :: l) = (s.2, l) := by rw [ad, if_pos e]
theorem ad_no {x p : Int} {s : Stp} {l : List Stp} (e : s.1 ≠ x) : ad x p (s :: l) = (p, s :: l) := by rw [ad, if_neg e]
/-- The numbers at which two lists begin steps, with both values there. -/
def tg : Nat → Int → Int → List Stp → List Stp → List (Int × Int × Int)
  | 0, _, _, _, _ => []
  | n + 1, p, q, a, b =>
    match nx a b with
    | none => []
    | some x => (x, (ad x p a).1, (ad x q b).1) :: tg n (ad x p a).1 (ad x q b).1 (ad x p a).2 (ad x q b).2
def tog (a b : List Stp) : List (Int × Int × Int) := tg (a.length + b.length) 0 0 a b
theorem nx_none {a b : List Stp} (h : nx a b = none) : a = [] ∧ b = [] := by
  cases a with
  | nil =>
    cases b with
    | nil => exact ⟨rfl, rfl⟩
    | cons t b => cases h
  | cons s a =>
    cases b with
    | nil => cases h
    | cons t b => cases h
theorem nx_le {a b : List Stp} {x : Int} (ha : Asc a) (hb : Asc b) (h : nx a b = some x) : (∀ s ∈ a, x ≤ s.1) ∧ (∀ s ∈ b, x ≤ s.1) := by
  have key : ∀ (s : Stp) (l : List Stp), Asc (s :: l) → ∀ t ∈ s :: l, s.1 ≤ t.1 := fun s l hs t ht => by
    rcases List.mem_cons.1 ht with rfl | ht
    · omega
    · have := (List.pairwise_cons.1 hs).1 t ht; omega
  cases a with
  | nil =>
    cases b with
    | nil => cases h
    | cons t b => cases h; exact ⟨fun s hs => (by cases hs), key t b hb⟩
  | cons s a =>
    cases b with
    | nil => cases h; exact ⟨key s a ha, fun s hs => (by cases hs)⟩
    | cons t b =>
      simp only [nx, Option.some.injEq] at h
      exact ⟨fun u hu => by have := key s a ha u hu; omega, fun u hu => by have := key t b hb u hu; omega⟩
theorem nx_mem {a b : List Stp} {x : Int} (h : nx a b = some x) : (∃ s ∈ a, s.1 = x) ∨ ∃ s ∈ b, s.1 = x := by
  cases a with
  | nil =>
    cases b with
    | nil => cases h
    | cons t b => cases h; exact .inr ⟨t, by simp, rfl⟩
  | cons s a =>
    cases b with
    | nil => cases h; exact .inl ⟨s, by simp, rfl⟩
    | cons t b =>
      simp only [nx, Option.some.injEq] at h
      rcases Int.le_total s.1 t.1 with k | k
      · exact .inl ⟨s, by simp, by omega⟩
      · exact .inr ⟨t, by simp, by omega⟩
theorem ad_asc {a : List Stp} {x p : Int} (ha : Asc a) : Asc (ad x p a).2 := by
  cases a with
  | nil => exact List.Pairwise.nil
  | cons s l =>
    by_cases e : s.1 = x
    · rw [ad_yes e]; exact (List.pairwise_cons.1 ha).2
    · rw [ad_no e]; exact ha
theorem ad_sub {a : List Stp} {x p : Int} : ∀ s ∈ (ad x p a).2, s ∈ a := by
  cases a with
  | nil => intro s h; exact h
  | cons t l =>
    by_cases e : t.1 = x
    · rw [ad_yes e]; intro s h; exact List.mem_cons_of_mem _ h
    · rw [ad_no e]; intro s h; exact h
theorem ad_gt {a : List Stp} {x p : Int} (ha : Asc a) (h : ∀ s ∈ a, x ≤ s.1) : ∀ s ∈ (ad x p a).2, x < s.1 := by
  cases a with
  | nil => intro s hs; cases hs
  | cons t l =>
    have ht := h t (by simp)
    have hl := (List.pairwise_cons.1 ha).1
    by_cases e : t.1 = x
    · rw [ad_yes e]; intro s hs; have := hl s hs; omega
    · rw [ad_no e]; intro s hs
      rcases List.mem_cons.1 hs with rfl | hs
      · omega
      · have := hl s hs; omega
theorem ad_va {a : List Stp} {x p y : Int} (hy : x ≤ y) : vaF (ad x p a).1 (ad x p a).2 y = vaF p a y := by
  cases a with
  | nil => rfl
  | cons t l =>
    by_cases e : t.1 = x
    · rw [ad_yes e, vaF, if_pos (by omega)]
    · rw [ad_no e]
theorem ad_len {a : List Stp} {x p : Int} : (ad x p a).2.length ≤ a.length := by
  cases a with
  | nil => exact Nat.le_refl _
  | cons t l =>
    by_cases e : t.1 = x
    · rw [ad_yes e]; simp
    · rw [ad_no e]; exact Nat.le_refl _
theorem nx_len {a b : List Stp} {x p q : Int} (h : nx a b = some x) : (ad x p a).2.length + (ad x q b).2.length < a.length + b.length := by
  cases a with
  | nil =>
    cases b with
    | nil => cases h
    | cons t b => cases h; simp [ad]
  | cons s a =>
    cases b with
    | nil => cases h; simp [ad]
    | cons t b =>
      simp only [nx, Option.some.injEq] at h
      rcases Int.le_total s.1 t.1 with k | k
      · have e : s.1 = x := by omega
        have : (ad x p (s :: a)).2 = a := by simp [ad, e]
        rw [this]
        have := ad_len (a := t :: b) (x := x) (p := q)
        simp at this ⊢; omega
      · have e : t.1 = x := by omega
        have : (ad x q (t :: b)).2 = b := by simp [ad, e]
        rw [this]
        have := ad_len (a := s :: a) (x := x) (p := p)
        simp at this ⊢; omega
theorem tg_none {a b : List Stp} {n : Nat} {p q : Int} (h : nx a b = none) : tg n p q a b = [] := by
  cases n with
  | zero => rfl
  | succ n => rw [tg, h]
theorem tg_some {a b : List Stp} {n : Nat} {p q x : Int} (h : nx a b = some x) : tg (n + 1) p q a b = (x, (ad x p a).1, (ad x q b).1) :: tg n (ad x p a).1 (ad x q b).1 (ad x p a).2 (ad x q b).2 := by
  rw [tg, h]
theorem tg_place {n : Nat} {p q : Int} {a b : List Stp} (e : Int × Int × Int) (he : e ∈ tg n p q a b) : (∃ s ∈ a, s.1 = e.1) ∨ ∃ s ∈ b, s.1 = e.1 := by
  induction n generalizing p q a b with
  | zero => cases he
  | succ n ih =>
    cases h : nx a b with
    | none => rw [tg_none h] at he; cases he
    | some x =>
      rw [tg_some h] at he
      rcases List.mem_cons.1 he with rfl | he
      · exact nx_mem h
      · rcases ih he with ⟨s, hs, k⟩ | ⟨s, hs, k⟩
        · exact .inl ⟨s, ad_sub s hs, k⟩
        · exact .inr ⟨s, ad_sub s hs, k⟩
theorem tg_gt {n : Nat} {p q x : Int} {a b : List Stp} (ha : ∀ s ∈ a, x < s.1) (hb : ∀ s ∈ b, x < s.1) : ∀ e ∈ tg n p q a b, x < e.1 := by
  intro e he
  rcases tg_place e he with ⟨s, hs, k⟩ | ⟨s, hs, k⟩
  · have := ha s hs; omega
  · have := hb s hs; omega
theorem tg_asc {n : Nat} {p q : Int} {a b : List Stp} (ha : Asc a) (hb : Asc b) : (tg n p q a b).Pairwise (fun d e => d.1 < e.1) := by
  induction n generalizing p q a b with
  | zero => exact List.Pairwise.nil
  | succ n ih =>
    cases h : nx a b with
    | none => rw [tg_none h]; exact List.Pairwise.nil
    | some x =>
      rw [tg_some h]
      have hx := nx_le ha hb h
      exact List.pairwise_cons.2 ⟨tg_gt (ad_gt ha hx.1) (ad_gt hb hx.2), ih (ad_asc ha) (ad_asc hb)⟩
theorem tg_val {n : Nat} {p q : Int} {a b : List Stp} (ha : Asc a) (hb : Asc b) : ∀ e ∈ tg n p q a b, e.2.1 = vaF p a e.1 ∧ e.2.2 = vaF q b e.1 := by
  induction n generalizing p q a b with
  | zero => intro e he; cases he
  | succ n ih =>
    intro e he
    cases h : nx a b with
    | none => rw [tg_none h] at he; cases he
    | some x =>
      rw [tg_some h] at he
      have hx := nx_le ha hb h
      have ga := ad_gt (p := p) ha hx.1
      have gb := ad_gt (p := q) hb hx.2
      rcases List.mem_cons.1 he with rfl | he
      · refine ⟨?_, ?_⟩
        · rw [← ad_va (a := a) (x := x) (p := p) (Int.le_refl x), vaF_lt ga]
        · rw [← ad_va (a := b) (x := x) (p := q) (Int.le_refl x), vaF_lt gb]
      · have k := ih (ad_asc ha) (ad_asc hb) e he
        have g := tg_gt ga gb e he
        rw [ad_va (by omega), ad_va (by omega)] at k
        exact k
theorem tog_val {a b : List Stp} (ha : Asc a) (hb : Asc b) : ∀ e ∈ tog a b, e.2.1 = va a e.1 ∧ e.2.2 = va b e.1 := tg_val ha hb
/-- The steps of an operation on the values of two functions. -/
def opl (o : Int → Int → Int) (t : List (Int × Int × Int)) : List Stp := t.map fun e => (e.1, o e.2.1 e.2.2)
theorem opl_va {o : Int → Int → Int} {n : Nat} {p q y : Int} {a b : List Stp} (ha : Asc a) (hb : Asc b) (hn : a.length + b.length ≤ n) :
    vaF (o p q) (opl o (tg n p q a b)) y = o (vaF p a y) (vaF q b y) := by
  induction n generalizing p q a b with
  | zero =>
    have e1 := List.eq_nil_of_length_eq_zero (show a.length = 0 by omega)
    have e2 := List.eq_nil_of_length_eq_zero (show b.length = 0 by omega)
    subst e1; subst e2; rfl
  | succ n ih =>
    cases h : nx a b with
    | none =>
      obtain ⟨rfl, rfl⟩ := nx_none h
      rw [tg_none h]; rfl
    | some x =>
      have hx := nx_le ha hb h
      have ga := ad_gt (p := p) ha hx.1
      have gb := ad_gt (p := q) hb hx.2
      rw [tg_some h]
      rw [opl, List.map_cons, vaF]
      have hl := nx_len (p := p) (q := q) h
      by_cases hy : x ≤ y
      · rw [if_pos hy]
        have k := ih (p := (ad x p a).1) (q := (ad x q b).1) (ad_asc ha (p := p) (x := x)) (ad_asc hb (p := q) (x := x)) (by omega)
        rw [ad_va hy, ad_va hy] at k
        exact k
      · rw [if_neg hy, vaF_lt (l := a) (fun s hs => by have := hx.1 s hs; omega), vaF_lt (l := b) (fun s hs => by have := hx.2 s hs; omega)]
        refine vaF_lt fun s hs => ?_
        obtain ⟨e, he, rfl⟩ := List.mem_map.1 hs
        have := tg_gt ga gb e he
        show y < e.1
        omega
theorem opl_asc {o : Int → Int → Int} {t : List (Int × Int × Int)} (h : t.Pairwise (fun d e => d.1 < e.1)) : Asc (opl o t) := by
  unfold opl Asc
  rw [List.pairwise_map]; exact h
theorem tog_op {o : Int → Int → Int} (h0 : o 0 0 = 0) {a b : List Stp} (ha : Asc a) (hb : Asc b) (y : Int) : va (opl o (tog a b)) y = o (va a y) (va b y) := by
  have := opl_va (o := o) (p := 0) (q := 0) (y := y) ha hb (Nat.le_refl _)
  rw [h0] at this; exact this
/-- Short steps, behind a value. -/
def shF (last : Int) : List Stp → List Stp
  | [] => []
  | s :: l => if s.2 = last then shF last l else s :: shF s.2 l
def sht (l : List Stp) : List Stp := shF 0 l
theorem shF_sub {l : List Stp} {v : Int} : (shF v l).Sublist l := by
  induction l generalizing v with
  | nil => exact List.Sublist.refl _
  | cons s l ih =>
    unfold shF
    split
    · exact ih.cons _
    · exact ih.cons_cons _
theorem shF_asc {l : List Stp} {v : Int} (h : Asc l) : Asc (shF v l) := h.sublist shF_sub
theorem shF_va {l : List Stp} {v y : Int} (h : Asc l) : vaF v (shF v l) y = vaF v l y := by
  induction l generalizing v with
  | nil => rfl
  | cons s l ih =>
    have hl := (List.pairwise_cons.1 h)
    unfold shF
    split
    · rename_i e
      rw [ih hl.2, vaF]
      split
      · rw [e]
      · rfl
    · rw [vaF, vaF]
      split
      · exact ih hl.2
      · rename_i hy
        have hgt : ∀ t ∈ l, y < t.1 := fun t ht => by have := hl.1 t ht; omega
        rw [vaF_lt (fun t ht => hgt t (shF_sub.subset ht)), vaF_lt hgt]
theorem sht_va {l : List Stp} (h : Asc l) (y : Int) : va (sht l) y = va l y := shF_va h
/-- What comes of two lists by an operation: short steps and an error number. -/
def cmb (o : Int → Int → Int) (a b : List Stp) : List Stp × Int :=
  let t := opl o (tog a b)
  if t.all (fun s => ara s.2) then (if (sht t).length ≤ 200 then (sht t, 0) else ([], 4)) else ([], 5)
theorem tg_swap {n : Nat} {p q : Int} {a b : List Stp} : tg n q p b a = (tg n p q a b).map fun e => (e.1, e.2.2, e.2.1) := by
  induction n generalizing p q a b with
  | zero => rfl
  | succ n ih =>
    have hs : nx b a = nx a b := by
      cases a <;> cases b <;> simp [nx]
      omega
    cases h : nx a b with
    | none => rw [tg_none h, tg_none (by rw [hs, h])]; rfl
    | some x => rw [tg_some h, tg_some (by rw [hs, h]), ih]; rfl
theorem cmb_comm {o : Int → Int → Int} (h : ∀ x y, o x y = o y x) (a b : List Stp) : cmb o a b = cmb o b a := by
  have e : opl o (tog b a) = opl o (tog a b) := by
    unfold tog opl
    rw [tg_swap (a := a) (b := b), List.map_map, Nat.add_comm b.length]
    exact List.map_congr_left fun e _ => by simp [h e.2.2]
  unfold cmb
  rw [e]
end Go.Proofs.Ytbohcedclnbcdaa
