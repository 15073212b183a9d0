/- Loop. -/
import Derived.Test.YteofbbakegcohaaPa
namespace Go.Proofs.Yteofbbakegcohaa
open Go.ChangeShapes Go.WideShapes Go.ChangeAt Go.RowKit
set_option linter.unusedVariables false
set_option linter.unusedSimpArgs false


/-- The nodes of parts are nodes. -/
theorem tvis_in {n : Nat} {A : Nat → List Nat} (hA : ∀ v, v < n → ∀ u ∈ A v, u < n) : ∀ (k v : Nat) (s : TS), v < n → s.num v = 0 → zc s.num n ≤ k → Tk n s → (∀ x ∈ s.stk, x < n) → (∀ p ∈ s.prt, ∀ x ∈ p, x < n) → ∀ p ∈ (tvis n A k v s).1.prt, ∀ x ∈ p, x < n
  | 0, v, s, hv, h0, hz, h, _, _ => by have := zc_pos h0 n hv; omega
  | k + 1, v, s, hv, h0, hz, h, hs, hp => by
    obtain ⟨a1, a2, a3, a4⟩ := tin_tk h hv h0
    have hz1 := h.z
    have td := fun v s h1 h2 h3 h4 => tvis_td hA k v s h1 h2 h3 h4
    have key : ∀ (xs : List Nat) (t : TS) (l : Nat), (∀ x ∈ xs, x < n) → Tk n t → zc t.num n ≤ k → (∀ x ∈ t.stk, x < n) → (∀ p ∈ t.prt, ∀ x ∈ p, x < n) → ∀ p ∈ (xs.foldl (tstp (tvis n A k)) (t, l)).1.prt, ∀ x ∈ p, x < n := by
      intro xs
      induction xs with
      | nil => intro t l _ _ _ _ h; exact h
      | cons x xs ih =>
        intro t l hx ht hzt hst hpt
        rw [List.foldl_cons]
        by_cases h0 : t.num x = 0
        · have e : tstp (tvis n A k) (t, l) x = ((tvis n A k x t).1, min l (tvis n A k x t).2) := by unfold tstp; rw [if_pos h0]
          rw [e]
          obtain ⟨k1, k2, -, -⟩ := td x t (hx x (by simp)) h0 hzt ht
          obtain ⟨T, e2, hT, -⟩ := k2.st
          exact ih _ _ (fun y hy => hx y (by simp [hy])) k1 (Nat.le_trans (zc_mono k2.m n) hzt) (fun y hy => by
            rw [e2] at hy
            rcases List.mem_append.1 hy with hy | hy
            · exact hst y hy
            · exact hT y hy) (tvis_in hA k x t (hx x (by simp)) h0 hzt ht hst hpt)
        · have e : tstp (tvis n A k) (t, l) x = (t, min l (t.num x)) := by unfold tstp; rw [if_neg h0]
          rw [e]
          exact ih t _ (fun y hy => hx y (by simp [hy])) ht hzt hst hpt
    have hst : ∀ x ∈ (tin s v).stk, x < n := fun x hx => by
      rcases List.mem_append.1 hx with hx | hx
      · exact hs x hx
      · rw [List.mem_singleton.1 hx]; exact hv
    have b := key (A v) (tin s v) (s.vis + 1) (hA v hv) a1 (by omega) hst hp
    have tf := tfold_td (n := n) (k := k) (A := A) (fun v s h1 h2 h3 h4 => by
      have := td v s h1 h2 h3 h4
      exact ⟨this.1, this.2.1, this.2.2.2⟩) (A v) (tin s v) (s.vis + 1) (hA v hv) a1 (by omega) (by omega)
    unfold tvis
    simp only
    generalize (A v).foldl (tstp (tvis n A k)) (tin s v, s.vis + 1) = r at *
    by_cases hr : r.2 = s.vis + 1
    · rw [if_pos hr]
      intro p hp2 x hx
      have hp2 : p ∈ r.1.prt ++ [srt (r.1.stk.drop s.stk.length)] := hp2
      rcases List.mem_append.1 hp2 with h | h
      · exact b p h x hx
      · rw [List.mem_singleton.1 h, srt_mem] at hx
        have hx := List.mem_of_mem_drop hx
        obtain ⟨T, e2, hT, -⟩ := tf.2.1.st
        rw [e2] at hx
        rcases List.mem_append.1 hx with hx | hx
        · exact hst x hx
        · exact hT x hx
    · rw [if_neg hr]; exact b
theorem tall_in {n : Nat} {A : Nat → List Nat} (hA : ∀ v, v < n → ∀ u ∈ A v, u < n) : ∀ k, k ≤ n → ∀ p ∈ (tall n A k).prt, ∀ x ∈ p, x < n
  | 0, _ => fun p hp => by simp [tall] at hp
  | k + 1, h => by
    have h1 := (tall_ok hA k (by omega)).1
    have h2 := (tall_le hA (k := k) (by omega)).2.2.2
    have ih := tall_in hA k (by omega)
    unfold tall
    by_cases h0 : (tall n A k).num k = 0
    · rw [if_pos h0]; exact tvis_in hA n k _ (by omega) h0 (zc_le _ _) h1 h2 ih
    · rw [if_neg h0]; exact ih
/-- Whether a part holds a loop. -/
def lpy (A : Nat → List Nat) (p : List Nat) : Bool := decide (1 < p.length) || (A (hd p)).contains (hd p)
/-- Parts in their order. -/
def Pso (n : Nat) (A : Nat → List Nat) (ls : List (List Nat)) : Prop := ls.Perm (tall n A n).prt ∧ ls.Pairwise (fun a b => hd a ≤ hd b)
def lpl (A : Nat → List Nat) (n first : Nat) : List Nat := first :: lpw A (dst A n first) first n (mnf (dst A n first) (A first))
theorem find_at {α : Type} {p : α → Bool} {ls : List α} {k : Nat} (hk : k < ls.length) (h : ∀ x ∈ ls.take k, p x = false) (hp : p ls[k] = true) : ls.find? p = some ls[k] := by
  rw [List.find?_eq_some_iff_getElem]
  refine ⟨hp, k, hk, rfl, fun j hj => ?_⟩
  have := h (ls[j]) (by rw [show ls[j] = (ls.take k)[j]'(by rw [List.length_take]; omega) from List.getElem_take.symm]; exact List.getElem_mem _)
  rw [this]; rfl
theorem hd_mem {p : List Nat} (h : p ≠ []) : hd p ∈ p := by
  cases p with
  | nil => exact absurd rfl h
  | cons a t => simp [hd]
set_option maxRecDepth 100000 in
set_option maxHeartbeats 4000000 in
theorem loop_ok (p : Option Addr) (n : Nat) (l : List (Nat × Nat)) (cap : Nat) (w : World) (hG : Gr w p n l) (HL : ∀ ls, Pso n (adj l) ls → ∀ q ∈ ls, lpy (adj l) q = true → Lh (adj l) n (hd q) (dst (adj l) n (hd q))) :
    Calls Try.prog 27 #[.int .i64 n, .slice p l.length cap] w fun e w' => ∃ ls, Pso n (adj l) ls ∧ Below w.heap.size w w' ∧ (∀ q, ls.find? (lpy (adj l)) = some q → ∃ v, e = .returned (.tuple #[v, .int .i64 0]) ∧ Own w.heap.size w' v (lpl (adj l) n (hd q))) ∧ (ls.find? (lpy (adj l)) = none → e = .returned (.tuple #[.slice none 0 0, .int .i64 12])) := by
  have hn := hG.2.2.1
  have hlA : ∀ v, (adj l v).length ≤ 1000 := fun v => Nat.le_trans (adj_len l v) hG.2.1
  have HLL := Lib.hid HL
  clear HL
  go_enter Try.func27, Try.ntmps27
  go_wp2_with (first
    | (go_at_call 15; (with_reducible refine (valid_ok cap hG).mono ?_); rintro e w1 ⟨rfl, b1⟩; have hG1 := hG.on b1)
    | (go_at_call 42; (with_reducible refine (graph_gm p n l cap _ hG1).mono ?_); rintro e w2 ⟨rfl, g2, b2⟩)
    | (go_at_call 54; (with_reducible refine (parts_any w1.heap.size n (adj l) _ g2).mono ?_); rintro e w3 ⟨v, ls, rfl, hN3, hp3, hs3, b3⟩; obtain ⟨pq, pc, rfl, kN⟩ := hN3.rd))
  have HPS : Hid (Pso n (adj l) ls) := Lib.hid ⟨hp3, hs3⟩
  have g3 := g2.on b3
  have bw3 := belows (belows b1 b2) b3
  have hne : ∀ q ∈ ls, q ≠ [] := fun q hq => tall_ne g2.lt n (Nat.le_refl _) q (hp3.mem_iff.1 hq)
  have hin : ∀ q ∈ ls, ∀ x ∈ q, x < n := fun q hq => tall_in g2.lt n (Nat.le_refl _) q (hp3.mem_iff.1 hq)
  have hlsl : ls.length ≤ 60 := by have h1 := hp3.length_eq; have h2 := tall_le g2.lt (Nat.le_refl n); omega
  have KN := Lib.hid kN
  have HNE := Lib.hid (And.intro hne hin)
  clear hp3 hs3 hN3 kN hne hin b1 b2 b3 hG1 g2
  go_loopw [20] (fun v wr => ∃ k : Nat, v = .int .i64 k ∧ k ≤ ls.length ∧ Hid (∀ q ∈ ls.take k, lpy (adj l) q = false) ∧ Below w3.heap.size w3 wr) (fun v _ => ls.length - (intOf v).toNat)
  case atStart => exact ⟨0, rfl, Nat.zero_le _, Lib.hid (by simp), Below.refl _ _⟩
  case round =>
    obtain ⟨k, rfl, hk, HT, hB⟩ := hrel
    by_cases hlt : k < ls.length
    · have g1 : decide ((k : Int) < (ls.length : Int)) = true := by simp [hlt]
      have W1 : IntKind.i64.wrap ((k : Int) + 1) = ((k + 1 : Nat) : Int) := by rw [IntWalk.i64_in _ (by omega)]; omega
      have q1 : (0 : Int) ≤ (k : Int) := by omega
      have q2 : (k : Int) < (ls.length : Int) := by omega
      obtain ⟨g, u, rfl, cu, ru⟩ := KN.out k hlt
      have cu := cell_later hB cu
      have ru := ru.on hB
      have hqm := List.getElem_mem hlt
      have hne := HNE.out.1 _ hqm
      have hin := HNE.out.2 _ hqm
      have HFA := Lib.hid (fun h => find_at (p := lpy (adj l)) hlt HT.out h)
      have HTK : Hid (lpy (adj l) ls[k] = false → ∀ q ∈ ls.take (k + 1), lpy (adj l) q = false) := Lib.hid fun h x hx => by
        rw [List.take_succ_eq_append_getElem hlt, List.mem_append] at hx
        rcases hx with hx | hx
        · exact HT.out x hx
        · rw [List.mem_singleton.1 hx]; exact h
      have HLq := Lib.hid (HLL.out ls HPS.out _ hqm)
      obtain ⟨q, hq⟩ : ∃ q, q = ls[k] := ⟨_, rfl⟩
      rw [← hq] at ru hne hin HFA HTK HLq
      clear hq hqm
      have hfn := hin _ (hd_mem hne)
      have hpos : 0 < q.length := List.length_pos_iff.2 hne
      obtain ⟨qa, qc, rfl, kq⟩ := ru
      obtain ⟨gq, rfl, c0⟩ := kq 0 hpos
      have hq0 : q[0] = hd q := by
        cases q with
        | nil => exact absurd rfl hne
        | cons a t => rfl
      rw [hq0] at c0
      obtain ⟨fs, hfs⟩ : ∃ fs, fs = hd q := ⟨_, rfl⟩
      rw [← hfs] at c0 hfn HLq
      have HFS := Lib.hid hfs
      have q3 : (0 : Int) < (q.length : Int) := by omega
      have q4 : (0 : Int) ≤ (fs : Int) := by omega
      have q5 : (fs : Int) < (n : Int) := by omega
      have gB := g3.on hB
      obtain ⟨ua, cua, rua⟩ := gB.rd fs hfn
      have hC := contains_any ua (adj l fs) fs wr rua (Nat.le_trans (hlA fs) (by omega))
      have bwr := belows bw3 hB
      clear hq0 hfs hne hin kq
      by_cases h1 : 1 < q.length
      · have t1 : decide ((1 : Int) < (q.length : Int)) = true := decide_eq_true (by omega)
        have hy : lpy (adj l) q = true := by unfold lpy; rw [decide_eq_true h1]; rfl
        have HFD := Lib.hid (HFA.out hy)
        have hLo := loop_any w1.heap.size n fs (adj l) wr gB (HLq.out hy)
        clear hy hC h1
        go_wp2_with (go_at_call 55; (with_reducible refine hLo.mono ?_); rintro e w6 ⟨v6, rfl, o6, b6⟩)
        refine bodyPost_ret (v := .tuple #[v6, .int .i64 0]) (by simp [results, Try.results27, go_sem]) rfl ⟨ls, HPS.out, belows bwr b6, fun q' e => ?_, fun e => ?_⟩
        · rw [HFD.out] at e
          simp only [Option.some.injEq] at e
          subst e
          exact ⟨v6, rfl, by rw [← HFS.out]; exact o6.mono bwr.size⟩
        · rw [HFD.out] at e; cases e
      · have t1 : decide ((1 : Int) < (q.length : Int)) = false := decide_eq_false (by omega)
        cases hc : (adj l fs).contains fs
        · rw [hc] at hC
          have hy : lpy (adj l) q = false := by unfold lpy; rw [decide_eq_false h1, ← HFS.out, hc]; rfl
          have HT2 := Lib.hid (HTK.out hy)
          clear hy h1 hc
          go_wp2_with (go_at_call 34; (with_reducible refine hC.mono ?_); rintro e w6 ⟨rfl, rfl⟩)
          exact ⟨⟨k + 1, rfl, hlt, HT2, hB⟩, by simp [intOf]; omega⟩
        · rw [hc] at hC
          have hy : lpy (adj l) q = true := by unfold lpy; rw [← HFS.out, hc]; simp
          have HFD := Lib.hid (HFA.out hy)
          have hLo := loop_any w1.heap.size n fs (adj l) wr gB (HLq.out hy)
          clear hy h1 hc
          go_wp2_with (first | (go_at_call 34; (with_reducible refine hC.mono ?_); rintro e w6 ⟨rfl, rfl⟩) | (go_at_call 55; (with_reducible refine hLo.mono ?_); rintro e w6 ⟨v6, rfl, o6, b6⟩))
          refine bodyPost_ret (v := .tuple #[v6, .int .i64 0]) (by simp [results, Try.results27, go_sem]) rfl ⟨ls, HPS.out, belows bwr b6, fun q' e => ?_, fun e => ?_⟩
          · rw [HFD.out] at e
            simp only [Option.some.injEq] at e
            subst e
            exact ⟨v6, rfl, by rw [← HFS.out]; exact o6.mono bwr.size⟩
          · rw [HFD.out] at e; cases e
    · have g1 : decide ((k : Int) < (ls.length : Int)) = false := by simp; omega
      have hnone : ls.find? (lpy (adj l)) = none := by
        rw [List.find?_eq_none]
        intro x hx
        rw [HT.out x (by rw [List.take_of_length_le (by omega)]; exact hx)]; simp
      have HNO := Lib.hid hnone
      clear hnone
      go_wp2
      refine bodyPost_ret (v := .tuple #[.slice none 0 0, .int .i64 12]) (by simp [results, Try.results27, go_sem]) rfl ⟨ls, HPS.out, belows bw3 hB, fun q' e => ?_, fun e => rfl⟩
      rw [HNO.out] at e; cases e
set_option maxRecDepth 100000 in
theorem loop_no (p : Option Addr) (n : Int) (l : List (Int × Int)) (cap : Nat) (w : World) (hS : Sl w p l) (h : vG n l = false) :
    Calls Try.prog 27 #[.int .i64 n, .slice p l.length cap] w fun e w' => e = .returned (.tuple #[.slice none 0 0, .int .i64 1]) ∧ Below w.heap.size w w' := by
  have hv := valid_any p l cap n w hS
  rw [h] at hv
  go_enter Try.func27, Try.ntmps27
  go_wp2_with (go_at_call 15; (with_reducible refine hv.mono ?_); rintro e w1 ⟨rfl, b1⟩)
  exact bodyPost_ret (v := .tuple #[.slice none 0 0, .int .i64 1]) (by simp [results, Try.results27, go_sem]) rfl ⟨rfl, b1⟩
end Go.Proofs.Yteofbbakegcohaa
