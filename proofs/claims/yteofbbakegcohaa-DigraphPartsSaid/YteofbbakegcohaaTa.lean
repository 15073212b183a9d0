/- The search in depth for the parts: what it reckons. -/
import Derived.Test.YteofbbakegcohaaLp
namespace Go.Proofs.Yteofbbakegcohaa
open Go.ChangeShapes Go.WideShapes Go.ChangeAt Go.RowKit
set_option linter.unusedVariables false
set_option linter.unusedSimpArgs false

/-- How many of the first n nodes have not been visited. -/
def zc (g : Nat → Nat) : Nat → Nat
  | 0 => 0
  | n + 1 => zc g n + if g n = 0 then 1 else 0
theorem zc_far (g : Nat → Nat) (u x : Nat) : ∀ n, n ≤ u → zc (upd g u x) n = zc g n
  | 0, _ => rfl
  | n + 1, h => by rw [zc, zc, zc_far g u x n (by omega), upd_other (by omega)]
theorem zc_upd (g : Nat → Nat) (u x : Nat) (h1 : g u = 0) (h2 : x ≠ 0) : ∀ n, u < n → zc (upd g u x) n + 1 = zc g n
  | n + 1, h => by
    rw [zc, zc]
    by_cases e : u = n
    · subst e
      rw [zc_far g u x u (Nat.le_refl _), upd_same, if_neg h2, if_pos h1]
    · rw [upd_other (Ne.symm e), ← zc_upd g u x h1 h2 n (by omega)]
      omega
theorem zc_le (g : Nat → Nat) : ∀ n, zc g n ≤ n
  | 0 => Nat.le_refl _
  | n + 1 => by have := zc_le g n; rw [zc]; split <;> omega
theorem zc_mono {g h : Nat → Nat} (k : ∀ v, g v ≠ 0 → h v ≠ 0) : ∀ n, zc h n ≤ zc g n
  | 0 => Nat.le_refl _
  | n + 1 => by
    have := zc_mono k n
    have e := k n
    rw [zc, zc]
    split <;> split <;> omega
theorem zc_pos {g : Nat → Nat} {u : Nat} (h : g u = 0) : ∀ n, u < n → 0 < zc g n
  | n + 1, hn => by
    rw [zc]
    by_cases e : u = n
    · subst e; rw [if_pos h]; omega
    · have := zc_pos h n (by omega)
      omega

structure TS where
  vis : Nat
  num : Nat → Nat
  stk : List Nat
  prt : List (List Nat)
def tstp (vs : Nat → TS → TS × Nat) (acc : TS × Nat) (x : Nat) : TS × Nat :=
  if acc.1.num x = 0 then ((vs x acc.1).1, min acc.2 (vs x acc.1).2) else (acc.1, min acc.2 (acc.1.num x))
/-- A part is found: it leaves the stack. -/
def tcut (n m : Nat) (t : TS) : TS := ⟨t.vis, fun x => if x ∈ t.stk.drop m then n + 1 else t.num x, t.stk.take m, t.prt ++ [srt (t.stk.drop m)]⟩
def tin (s : TS) (v : Nat) : TS := ⟨s.vis + 1, upd s.num v (s.vis + 1), s.stk ++ [v], s.prt⟩
def tvis (n : Nat) (A : Nat → List Nat) : Nat → Nat → TS → TS × Nat
  | 0, _, s => (s, 0)
  | k + 1, v, s =>
    let r := (A v).foldl (tstp (tvis n A k)) (tin s v, s.vis + 1)
    if r.2 = s.vis + 1 then (tcut n s.stk.length r.1, r.2) else r
structure Tk (n : Nat) (s : TS) : Prop where
  z : s.vis + zc s.num n ≤ n
  le : ∀ v, s.num v ≤ n + 1
structure Td (n : Nat) (s t : TS) : Prop where
  m : ∀ v, s.num v ≠ 0 → t.num v ≠ 0
  st : ∃ T, t.stk = s.stk ++ T ∧ (∀ x ∈ T, x < n) ∧ T.length + s.vis ≤ t.vis
  pr : t.prt.length + s.vis ≤ t.vis + s.prt.length
theorem Td.refl (n : Nat) (s : TS) : Td n s s := ⟨fun _ h => h, ⟨[], by simp, by simp, by simp⟩, by omega⟩
theorem Td.trans {n : Nat} {a b c : TS} (h : Td n a b) (k : Td n b c) : Td n a c := by
  obtain ⟨T, e, l, z⟩ := h.st
  obtain ⟨T', e', l', z'⟩ := k.st
  refine ⟨fun v hv => k.m v (h.m v hv), ⟨T ++ T', by rw [e', e]; simp, fun x hx => ?_, by rw [List.length_append]; omega⟩, by have := h.pr; have := k.pr; omega⟩
  rcases List.mem_append.1 hx with hx | hx
  · exact l x hx
  · exact l' x hx
theorem tin_tk {n v : Nat} {s : TS} (h : Tk n s) (hv : v < n) (h0 : s.num v = 0) : Tk n (tin s v) ∧ Td n s (tin s v) ∧ (tin s v).num v ≠ 0 ∧ zc (tin s v).num n + 1 = zc s.num n := by
  have zu := zc_upd s.num v (s.vis + 1) h0 (by omega) n hv
  have hz := h.z
  refine ⟨⟨?_, fun u => ?_⟩, ⟨fun u hu => ?_, ⟨[v], rfl, by simpa using hv, by simp [tin]; omega⟩, by simp [tin]; omega⟩, by simp [tin, upd_same], zu⟩
  · show s.vis + 1 + zc (upd s.num v (s.vis + 1)) n ≤ n
    omega
  · show upd s.num v (s.vis + 1) u ≤ n + 1
    unfold upd
    split
    · omega
    · exact h.le u
  · show upd s.num v (s.vis + 1) u ≠ 0
    unfold upd
    split
    · omega
    · exact hu
theorem tcut_tk {n m : Nat} {t : TS} (h : Tk n t) : Tk n (tcut n m t) := by
  refine ⟨?_, fun u => ?_⟩
  · have := zc_mono (g := t.num) (h := (tcut n m t).num) (fun v hv => by
      show (if v ∈ t.stk.drop m then n + 1 else t.num v) ≠ 0
      split
      · omega
      · exact hv) n
    have := h.z
    show t.vis + _ ≤ n
    omega
  · show (if u ∈ t.stk.drop m then n + 1 else t.num u) ≤ n + 1
    split
    · omega
    · exact h.le u
theorem tfold_td {n k : Nat} {A : Nat → List Nat} (hv : ∀ v s, v < n → s.num v = 0 → zc s.num n ≤ k → Tk n s → Tk n (tvis n A k v s).1 ∧ Td n s (tvis n A k v s).1 ∧ (tvis n A k v s).2 ≤ n + 1) :
    ∀ (xs : List Nat) (t : TS) (l : Nat), (∀ x ∈ xs, x < n) → Tk n t → zc t.num n ≤ k → l ≤ n + 1 → Tk n (xs.foldl (tstp (tvis n A k)) (t, l)).1 ∧ Td n t (xs.foldl (tstp (tvis n A k)) (t, l)).1 ∧ (xs.foldl (tstp (tvis n A k)) (t, l)).2 ≤ n + 1
  | [], t, l, _, h, _, hl => ⟨h, Td.refl n t, hl⟩
  | x :: xs, t, l, hx, h, hz, hl => by
    rw [List.foldl_cons]
    by_cases h0 : t.num x = 0
    · have e : tstp (tvis n A k) (t, l) x = ((tvis n A k x t).1, min l (tvis n A k x t).2) := by unfold tstp; rw [if_pos h0]
      rw [e]
      obtain ⟨k1, k2, k3⟩ := hv x t (hx x (by simp)) h0 hz h
      obtain ⟨m1, m2, m3⟩ := tfold_td hv xs _ (min l (tvis n A k x t).2) (fun y hy => hx y (by simp [hy])) k1 (Nat.le_trans (zc_mono k2.m n) hz) (by omega)
      exact ⟨m1, k2.trans m2, m3⟩
    · have e : tstp (tvis n A k) (t, l) x = (t, min l (t.num x)) := by unfold tstp; rw [if_neg h0]
      rw [e]
      exact tfold_td hv xs t _ (fun y hy => hx y (by simp [hy])) h hz (by omega)
theorem tvis_td {n : Nat} {A : Nat → List Nat} (hA : ∀ v, v < n → ∀ u ∈ A v, u < n) : ∀ (k v : Nat) (s : TS), v < n → s.num v = 0 → zc s.num n ≤ k → Tk n s → Tk n (tvis n A k v s).1 ∧ Td n s (tvis n A k v s).1 ∧ (tvis n A k v s).1.num v ≠ 0 ∧ (tvis n A k v s).2 ≤ n + 1
  | 0, v, s, hv, h0, hz, h => by have := zc_pos h0 n hv; omega
  | k + 1, v, s, hv, h0, hz, h => by
    obtain ⟨a1, a2, a3, a4⟩ := tin_tk h hv h0
    have hz1 := h.z
    obtain ⟨b1, b2, b3⟩ := tfold_td (fun v s h1 h2 h3 h4 => by
      have := tvis_td hA k v s h1 h2 h3 h4
      exact ⟨this.1, this.2.1, this.2.2.2⟩) (A v) (tin s v) (s.vis + 1) (hA v hv) a1 (by omega) (by omega)
    unfold tvis
    simp only
    generalize (A v).foldl (tstp (tvis n A k)) (tin s v, s.vis + 1) = r at *
    have ab := a2.trans b2
    by_cases hr : r.2 = s.vis + 1
    · rw [if_pos hr]
      refine ⟨tcut_tk b1, ⟨fun u hu => ?_, ⟨[], ?_, by simp, ?_⟩, ?_⟩, ?_, b3⟩
      · show (if u ∈ r.1.stk.drop s.stk.length then n + 1 else r.1.num u) ≠ 0
        split
        · omega
        · exact ab.m u hu
      · obtain ⟨T, e, -⟩ := ab.st
        show r.1.stk.take s.stk.length = s.stk ++ []
        rw [e]; simp
      · obtain ⟨T, e, -, hT⟩ := ab.st
        show 0 + s.vis ≤ r.1.vis
        omega
      · have h1 := b2.pr
        obtain ⟨T, -, -, hT⟩ := b2.st
        show (r.1.prt ++ [_]).length + s.vis ≤ r.1.vis + s.prt.length
        rw [List.length_append]
        simp [tin] at h1 ⊢
        omega
      · show (if v ∈ r.1.stk.drop s.stk.length then n + 1 else r.1.num v) ≠ 0
        split
        · omega
        · exact b2.m v a3
    · rw [if_neg hr]
      exact ⟨b1, ab, b2.m v a3, b3⟩
end Go.Proofs.Yteofbbakegcohaa
