/- The parts of a graph: parts. -/
import Derived.Test.YteofbbakegcohaaPs
namespace Go.Proofs.Yteofbbakegcohaa
open Go.ChangeShapes Go.WideShapes Go.ChangeAt Go.RowKit
set_option linter.unusedVariables false
set_option linter.unusedSimpArgs false


theorem ins_none (cap : Nat) (p : Option Addr) (w : World) : Calls Try.prog 92 #[.slice p 0 cap, .int .i64 0, .int .i64 0, .func (.func 69) #[] #[]] w fun e w' => e = .returned (.tuple #[]) ∧ w = w' := by
  go_enter Try.func92, Try.ntmps92
  go_wp2
  go_loop [8] (fun v => v = .int .i64 1) (fun _ => 0)
  case atStart => rfl
  case round =>
    subst hrel
    go_wp2
    go_end0
    exact ⟨rfl, rfl⟩
theorem pdq_none (cap : Nat) (p : Option Addr) (z : Int) (w : World) : Calls Try.prog 80 #[.slice p 0 cap, .int .i64 0, .int .i64 0, .int .i64 z, .func (.func 69) #[] #[]] w fun e w' => e = .returned (.tuple #[]) ∧ w = w' := by
  go_enter Try.func80, Try.ntmps80
  go_wp2
  go_loop [1, 2] (fun a b => a = .int .i64 0 ∧ b = .int .i64 0) (fun _ _ => 0)
  case atStart => exact ⟨rfl, rfl⟩
  case round =>
    obtain ⟨rfl, rfl⟩ := hrel
    go_wp2_with (go_at_call 92; (with_reducible refine (ins_none cap p _).mono ?_); rintro e w' ⟨rfl, rfl⟩)
    exact bodyPost_ret (v := .tuple #[]) (by simp [results, Try.results80, go_sem]) rfl ⟨rfl, rfl⟩
theorem len64_zero (w : World) : Calls Try.prog 91 #[.int .u64 0] w fun e w' => e = .returned (.int .i64 0) ∧ w = w' :=
  (Any.bits_Len64 Try.lays129 0 w (by decide) (by decide)).mono fun e w' h => ⟨h.1.trans (by rfl), h.2.symm⟩
theorem len_zero (w : World) : Calls Try.prog 76 #[.int .u64 0] w fun e w' => e = .returned (.int .i64 0) ∧ w = w' := by
  go_enter Try.func76, Try.ntmps76
  go_wp2_with (go_at_call 91; (with_reducible refine (len64_zero _).mono ?_); rintro e w' ⟨rfl, rfl⟩)
  go_ret
  exact ⟨rfl, rfl⟩
theorem psort_none (cap : Nat) (p : Option Addr) (w : World) : Calls Try.prog 68 #[.slice p 0 cap, .func (.func 69) #[] #[]] w fun e w' => e = .returned (.tuple #[]) ∧ w = w' := by
  go_enter Try.func68, Try.ntmps68
  go_wp2_with (first
    | (go_at_call 76; (with_reducible refine (len_zero _).mono ?_); rintro e w' ⟨rfl, rfl⟩)
    | (go_at_call 80; (with_reducible refine (pdq_none cap p _ _).mono ?_); rintro e w' ⟨rfl, rfl⟩))
  go_end0
  exact ⟨rfl, rfl⟩
theorem psort_all (B : Nat) (v : Value) (ls : List (List Nat)) (w : World) (h : Nest B w v ls) (hne : ∀ x ∈ ls, x ≠ []) (hl : ls.length ≤ 1000) :
    Calls Try.prog 68 #[v, .func (.func 69) #[] #[]] w fun e w' => ∃ ls', e = .returned (.tuple #[]) ∧ Nest B w' v ls' ∧ ls'.Perm ls ∧ ls'.Pairwise (fun a b => hd a ≤ hd b) ∧ w.grownBy w' v.ownBlock := by
  by_cases h0 : ls = []
  · subst h0
    have h' := h
    obtain ⟨vs, o, I⟩ := h'
    obtain ⟨q, c, rfl⟩ : ∃ q c, v = .slice q 0 c := by
      rcases o.2 with ⟨rfl, h⟩ | ⟨g, c, cur, rfl, -⟩
      · exact ⟨none, 0, rfl⟩
      · exact ⟨_, _, rfl⟩
    refine (psort_none c q w).mono ?_
    rintro e w' ⟨rfl, rfl⟩
    exact ⟨[], rfl, h, List.Perm.refl _, List.Pairwise.nil, grown_refl _ _⟩
  · exact psort_any B v ls w h h0 hne hl
/-- The state behind the first k nodes. -/
def tall (n : Nat) (A : Nat → List Nat) : Nat → TS
  | 0 => ⟨0, fun _ => 0, [], []⟩
  | k + 1 => if (tall n A k).num k = 0 then (tvis n A n k (tall n A k)).1 else tall n A k
theorem tall_ok {n : Nat} {A : Nat → List Nat} (hA : ∀ v, v < n → ∀ u ∈ A v, u < n) : ∀ k, k ≤ n → Tk n (tall n A k) ∧ Td n ⟨0, fun _ => 0, [], []⟩ (tall n A k)
  | 0, _ => ⟨⟨by have := zc_le (fun _ => 0) n; simpa [tall] using this, fun v => by simp [tall]⟩, Td.refl _ _⟩
  | k + 1, h => by
    obtain ⟨h1, h2⟩ := tall_ok hA k (by omega)
    unfold tall
    by_cases h0 : (tall n A k).num k = 0
    · rw [if_pos h0]
      obtain ⟨a, b, -, -⟩ := tvis_td hA n k (tall n A k) (by omega) h0 (zc_le _ _) h1
      exact ⟨a, h2.trans b⟩
    · rw [if_neg h0]; exact ⟨h1, h2⟩
theorem tall_le {n : Nat} {A : Nat → List Nat} (hA : ∀ v, v < n → ∀ u ∈ A v, u < n) {k : Nat} (h : k ≤ n) : (tall n A k).stk.length ≤ (tall n A k).vis ∧ (tall n A k).prt.length ≤ (tall n A k).vis ∧ (tall n A k).vis ≤ n ∧ ∀ x ∈ (tall n A k).stk, x < n := by
  obtain ⟨h1, h2⟩ := tall_ok hA k h
  obtain ⟨T, e, hT, hz⟩ := h2.st
  have hp := h2.pr
  have := h1.z
  simp at e hz hp
  refine ⟨by rw [e]; omega, by omega, by omega, fun x hx => hT x (by rw [e] at hx; exact hx)⟩
/-- No part is empty. -/
theorem tvis_ne {n : Nat} {A : Nat → List Nat} (hA : ∀ v, v < n → ∀ u ∈ A v, u < n) : ∀ (k v : Nat) (s : TS), v < n → s.num v = 0 → zc s.num n ≤ k → Tk n s → (∀ x ∈ s.prt, x ≠ []) → ∀ x ∈ (tvis n A k v s).1.prt, x ≠ []
  | 0, v, s, hv, h0, hz, h, _ => by have := zc_pos h0 n hv; omega
  | k + 1, v, s, hv, h0, hz, h, hp => by
    obtain ⟨a1, a2, a3, a4⟩ := tin_tk h hv h0
    have hz1 := h.z
    have td := fun v s h1 h2 h3 h4 => tvis_td hA k v s h1 h2 h3 h4
    have key : ∀ (xs : List Nat) (t : TS) (l : Nat), (∀ x ∈ xs, x < n) → Tk n t → zc t.num n ≤ k → (∀ x ∈ t.prt, x ≠ []) → ∀ x ∈ (xs.foldl (tstp (tvis n A k)) (t, l)).1.prt, x ≠ [] := by
      intro xs
      induction xs with
      | nil => intro t l _ _ _ h; exact h
      | cons x xs ih =>
        intro t l hx ht hzt hpt
        rw [List.foldl_cons]
        by_cases h0 : t.num x = 0
        · have e : tstp (tvis n A k) (t, l) x = ((tvis n A k x t).1, min l (tvis n A k x t).2) := by unfold tstp; rw [if_pos h0]
          rw [e]
          obtain ⟨k1, k2, -, -⟩ := td x t (hx x (by simp)) h0 hzt ht
          exact ih _ _ (fun y hy => hx y (by simp [hy])) k1 (Nat.le_trans (zc_mono k2.m n) hzt) (tvis_ne hA k x t (hx x (by simp)) h0 hzt ht hpt)
        · have e : tstp (tvis n A k) (t, l) x = (t, min l (t.num x)) := by unfold tstp; rw [if_neg h0]
          rw [e]
          exact ih t _ (fun y hy => hx y (by simp [hy])) ht hzt hpt
    have b := key (A v) (tin s v) (s.vis + 1) (hA v hv) a1 (by omega) hp
    have tf := tfold_td (n := n) (k := k) (A := A) (fun v s h1 h2 h3 h4 => by
      have := td v s h1 h2 h3 h4
      exact ⟨this.1, this.2.1, this.2.2.2⟩) (A v) (tin s v) (s.vis + 1) (hA v hv) a1 (by omega) (by omega)
    unfold tvis
    simp only
    generalize (A v).foldl (tstp (tvis n A k)) (tin s v, s.vis + 1) = r at *
    by_cases hr : r.2 = s.vis + 1
    · rw [if_pos hr]
      intro x hx
      have hx : x ∈ r.1.prt ++ [srt (r.1.stk.drop s.stk.length)] := hx
      rcases List.mem_append.1 hx with hx | hx
      · exact b x hx
      · rw [List.mem_singleton.1 hx]
        intro e
        have := congrArg List.length e
        rw [srt_len, List.length_drop] at this
        obtain ⟨T, e2, -, -⟩ := tf.2.1.st
        have e3 := congrArg List.length e2
        simp [tin] at e3 this
        omega
    · rw [if_neg hr]; exact b
theorem tall_ne {n : Nat} {A : Nat → List Nat} (hA : ∀ v, v < n → ∀ u ∈ A v, u < n) : ∀ k, k ≤ n → ∀ x ∈ (tall n A k).prt, x ≠ []
  | 0, _ => fun x hx => by simp [tall] at hx
  | k + 1, h => by
    have h1 := (tall_ok hA k (by omega)).1
    have ih := tall_ne hA k (by omega)
    unfold tall
    by_cases h0 : (tall n A k).num k = 0
    · rw [if_pos h0]; exact tvis_ne hA n k _ (by omega) h0 (zc_le _ _) h1 ih
    · rw [if_neg h0]; exact ih
end Go.Proofs.Yteofbbakegcohaa
