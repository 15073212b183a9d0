/- The reference's Labels. -/
import Derived.Test.YtampfciacjifgaaLab
import Derived.Deep.LoopGhost
namespace Go.Proofs.Ytampfciacjifgaa
open Go.ChangeShapes Go.WideShapes Go.ChangeAt Go.RowKit
set_option linter.unusedVariables false
set_option linter.unusedSimpArgs false

theorem Own.cell {B : Nat} {w : World} {g n c : Nat} {xs : List Nat} (h : Own B w (.slice (some ⟨g, 0, none⟩) n c) xs) (hn : xs.length = n) {j : Nat} (hj : j < n) : w.cell? ⟨g, j, none⟩ = some (.int .i64 (xs[j]'(by omega) : Nat)) := by
  subst hn
  rw [World.ownsRow.cellAt h j (by omega)]
  simp [ints, hj]
theorem Own.put {B : Nat} {w : World} {g n c : Nat} {xs : List Nat} (h : Own B w (.slice (some ⟨g, 0, none⟩) n c) xs) (hn : xs.length = n) (j v : Nat) : Own B (w.setCell ⟨g, j, none⟩ (.int .i64 (v : Int))) (.slice (some ⟨g, 0, none⟩) n c) (xs.set j v) := by
  subst hn
  have k := (World.ownsRow.stored h j (.int .i64 (v : Int))).1
  unfold Own
  rw [List.length_set]
  have e : (ints xs).set j (.int .i64 (v : Int)) = ints (xs.set j v) := by simp [ints, List.map_set]
  rw [← e]; exact k
theorem own_form {B : Nat} {w : World} {v : Value} {xs : List Nat} (h : Own B w v xs) : ∃ p c, v = .slice p xs.length c ∧ (p = none ∧ xs = [] ∨ ∃ g, p = some ⟨g, 0, none⟩ ∧ B ≤ g ∧ g < w.heap.size) := by
  have k := h.lt
  obtain ⟨hl, ⟨rfl, h0⟩ | ⟨g, cap, cur, rfl, hB, hg, r⟩⟩ := h
  · have e := List.eq_nil_of_length_eq_zero h0
    exact ⟨none, 0, by rw [e]; rfl, .inl ⟨rfl, e⟩⟩
  · exact ⟨_, cap, rfl, .inr ⟨g, rfl, hB, (k g rfl).2⟩⟩
theorem Own.cell' {B : Nat} {w : World} {g n c : Nat} {xs : List Nat} (h : Own B w (.slice (some ⟨g, 0, none⟩) n c) xs) (hn : xs.length = n) {j : Nat} (hj : j < n) : w.cell? ⟨g, j, none⟩ = some (.int .i64 (lf xs j : Nat)) := by
  rw [h.cell hn hj, lf_at (by omega)]
theorem Ls.put' {E : Nat → Nat → Prop} {n : Nat} {xs : List Nat} (h : Ls E n xs) {a b va : Nat} (ha : a < n) (hb : b < n) (e : E a b ∨ E b a) (hv : va = lf xs a) (lt : va < lf xs b) : Ls E n (xs.set b va) ∧ (xs.set b va).sum < xs.sum := by
  have hn := h.n
  have e1 := lf_at (xs := xs) (j := a) (by omega)
  have e2 := lf_at (xs := xs) (j := b) (by omega)
  have k := h.put ha hb e (by omega)
  rw [← e1, ← hv] at k
  exact k
/-- What the inner loop keeps: where nothing was changed, the first i edges have ends of one label each. -/
def Seen (l : List (Nat × Nat)) (but : Int) (i : Nat) (xs : List Nat) : Prop := ∀ j a b, j < i → (j : Int) ≠ but → l[j]? = some (a, b) → lf xs a = lf xs b
theorem Seen.next {l : List (Nat × Nat)} {but : Int} {i : Nat} {xs : List Nat} (h : Seen l but i xs) (hi : i < l.length) (k : (i : Int) ≠ but → lf xs l[i].1 = lf xs l[i].2) : Seen l but (i + 1) xs := by
  intro j a b h1 h2 h3
  by_cases e : j = i
  · subst e
    rw [List.getElem?_eq_getElem hi] at h3
    simp only [Option.some.injEq] at h3
    have := k h2
    rw [h3] at this
    exact this
  · exact h j a b (by omega) h2 h3

set_option maxRecDepth 100000 in
set_option maxHeartbeats 4000000 in
theorem labels_any (p : Option Addr) (n most : Nat) (but : Int) (l : List (Nat × Nat)) (cap : Nat) (w : World) (hG : Gr w p n l) (hmost : most ≤ l.length) :
    Calls Try.prog 44 #[.int .i64 n, .slice p l.length cap, .int .i64 most, .int .i64 but] w fun e w' => ∃ v xs, e = .returned v ∧ Own w.heap.size w' v xs ∧ xs.length = n ∧ Lab (ed l most but) (lf xs) ∧ Below w.heap.size w w' := by
  have hm := hG.2.1
  have hn := hG.2.2.1
  obtain ⟨i0, hi, hz0, hz1, hz2⟩ := info_parts info3
  go_enter Try.func44, Try.ntmps44
  go_wp2
  go_loopw [9, 10] (fun v9 v wr => ∃ k : Nat, v = .int .i64 k ∧ k ≤ n ∧ Own w.heap.size wr v9 (List.range k) ∧ Below w.heap.size w wr) (fun _ v _ => n - (intOf v).toNat)
  case atStart => exact ⟨0, rfl, Nat.zero_le _, World.ownsRow_nil _ _ _ _, Below.refl _ _⟩
  case round =>
    obtain ⟨k, rfl, hk, hO, hB⟩ := hrel
    have HO := Lib.hid hO
    clear hO
    by_cases hlt : k < n
    · have g : decide ((k : Int) < (n : Int)) = true := by simp [hlt]
      have W1 : IntKind.i64.wrap ((k : Int) + 1) = ((k + 1 : Nat) : Int) := by rw [IntWalk.i64_in _ (by omega)]; omega
      have kl : (List.range k).length = k := by simp
      go_wp2_with (at_builtin; refine wpList_append_own_at _ rfl _ _ 29 rfl w.heap.size 3 i0 _ 1 8 Try.underlying29 hi hz0 hz1 hz2 rfl (by decide) _ (List.range k).length (ints (List.range k)) rfl (own_on HO.out (al1 _ _)) ⟨_, 0, none⟩ 1 1 [.int .i64 (k : Int)] rfl rfl (cell_one_new _ _ _) (by simp [Value.oneCell']) (by unfold maxLen; omega) (by omega) (Nat.le_trans hB.size (al1 _ _).size) ?_)
      intro v' w2 o1 o2 o3 o4
      have O2 : Own w.heap.size w2 v' (List.range (k + 1)) := by
        unfold Own
        rw [List.range_succ, ints_app, List.length_append, List.length_range]
        exact o1
      have B2 : Below w.heap.size w w2 := (hB.alloc hB.size _).grown o2 (Nat.le_trans hB.size (al1 _ _).size) (fun j hj => (World.ownsRow.lt HO.out _ hj).1)
      clear o1 o2 o3 o4
      go_wp2
      exact ⟨⟨k + 1, rfl, hlt, O2, B2⟩, by simp [intOf]; omega⟩
    · have g : decide ((k : Int) < (n : Int)) = false := by simp; omega
      have ek : k = n := by omega
      subst ek
      have hL : Ls (ed l most but) k (List.range k) := Ls.start _ _
      obtain ⟨q, c, rfl, hq⟩ := own_form HO.out
      rw [List.length_range] at HO ⊢
      have HQ := Lib.hid hq
      clear hq
      go_wp2
      go_loopg [11] ((List.range k).sum + 1) (fun kk v11 wr => ∃ (b : Bool) (xs : List Nat), v11 = .bool b ∧ Hid (xs.sum + (if b then 1 else 0) ≤ kk) ∧ Hid (Own w.heap.size wr (.slice q k c) xs) ∧ Hid (Ls (ed l most but) k xs) ∧ Hid (b = false → Seen l but most xs) ∧ Below w.heap.size w wr)
      case atStart => exact ⟨true, _, rfl, Lib.hid (by simp), HO, Lib.hid hL, Lib.hid (fun h => by cases h), hB⟩
      case round =>
        clear HO hL hB
        obtain ⟨b, xs, rfl, hkk, hO, hL, hSn, hB⟩ := hrel
        cases b
        · go_wp2
          go_ret
          exact ⟨_, rfl, xs, hO.out, hL.out.n, hL.out.done (fun a b ⟨i, h1, h2, h3⟩ => hSn.out trivial i a b h1 h2 h3), hB⟩
        · go_wp2
          go_loopw [11, 12] (fun v11 v12 wr => ∃ (b : Bool) (ys : List Nat) (i : Nat), v11 = .bool b ∧ v12 = .int .i64 i ∧ i ≤ most ∧ Hid (Own w.heap.size wr (.slice q k c) ys) ∧ Hid (Ls (ed l most but) k ys) ∧ Hid (if b then ys.sum < xs.sum else ys = xs ∧ Seen l but i ys) ∧ Below w.heap.size w wr) (fun _ v _ => most - (intOf v).toNat)
          case atStart => exact ⟨false, xs, 0, rfl, rfl, Nat.zero_le _, hO, hL, Lib.hid ⟨rfl, fun j a b h => absurd h (Nat.not_lt_zero j)⟩, hB⟩
          case round =>
            clear hO hL hSn hB
            obtain ⟨b, ys, i, rfl, rfl, hi1, hO, hL, hS, hB⟩ := hrel
            by_cases hlt : i < most
            · have g : decide ((i : Int) < (most : Int)) = true := by simp [hlt]
              have W1 : IntKind.i64.wrap ((i : Int) + 1) = ((i + 1 : Nat) : Int) := by rw [IntWalk.i64_in _ (by omega)]; omega
              by_cases hb : (i : Int) = but
              · have t1 : ((i : Int) == but) = true := by simp [hb]
                have HB := Lib.hid hb
                clear hb
                have hS2 : if b then ys.sum < xs.sum else ys = xs ∧ Seen l but (i + 1) ys := by
                  have h := hS.out
                  cases b
                  · exact ⟨h.1, h.2.next (by omega) (fun e => absurd HB.out e)⟩
                  · exact h
                have HS2 := Lib.hid hS2
                clear hS2 hS
                go_wp2
                exact ⟨⟨b, ys, i + 1, rfl, rfl, hlt, hO, hL, HS2, hB⟩, by simp [intOf]; omega⟩
              · have t1 : ((i : Int) == but) = false := by simp [hb]
                have hil : i < l.length := by omega
                obtain ⟨a, rfl, c0, c1, l1, l2, ne⟩ := (hG.on hB).at hil
                have hE : ed l most but l[i].1 l[i].2 := ⟨i, hlt, hb, List.getElem?_eq_getElem hil⟩
                have k0 : 0 < k := by omega
                have hq : ∃ G, q = some ⟨G, 0, none⟩ ∧ w.heap.size ≤ G := by
                  rcases HQ.out with ⟨-, e⟩ | ⟨G, e, h, -⟩
                  · have := congrArg List.length e; simp at this; omega
                  · exact ⟨G, e, h⟩
                obtain ⟨G, rfl, hBG⟩ := hq
                have hnl := hL.out.n
                obtain ⟨x, hx⟩ : ∃ x, x = l[i].1 := ⟨_, rfl⟩
                obtain ⟨y, hy⟩ : ∃ y, y = l[i].2 := ⟨_, rfl⟩
                rw [← hx, ← hy] at ne hE
                rw [← hx] at c0 l1
                rw [← hy] at c1 l2
                have HX := Lib.hid (And.intro hx hy)
                clear hx hy
                have ca := hO.out.cell' hnl l1
                have cb := hO.out.cell' hnl l2
                have hO9 := hO.out
                rw [← hnl] at hO9
                have fa := World.ownsRow.frozenAt hO9 x
                have fb := World.ownsRow.frozenAt hO9 y
                clear hO9
                obtain ⟨va, hva⟩ : ∃ va, va = lf ys x := ⟨_, rfl⟩
                obtain ⟨vb, hvb⟩ : ∃ vb, vb = lf ys y := ⟨_, rfl⟩
                rw [← hva] at ca
                rw [← hvb] at cb
                have HV := Lib.hid (And.intro hva hvb)
                have HE := Lib.hid hE
                have HN := Lib.hid hnl
                clear hva hvb hE hnl
                have q1 : (0 : Int) ≤ (i : Int) := by omega
                have q2 : (i : Int) < (l.length : Int) := by omega
                have q3 : (0 : Int) ≤ (x : Int) := by omega
                have q4 : (x : Int) < (k : Int) := by omega
                have q5 : (0 : Int) ≤ (y : Int) := by omega
                have q6 : (y : Int) < (k : Int) := by omega
                rcases Nat.lt_trichotomy va vb with tri | tri | tri
                · have s1 : (va : Int) < (vb : Int) := by omega
                  have s2 : ¬ (vb : Int) < (va : Int) := by omega
                  have hP := hL.out.put' (a := x) (b := y) (va := va) l1 l2 (.inl HE.out) HV.out.1 (by rw [← HV.out.2]; omega)
                  have O2 : ∀ nq, Own w.heap.size ((wr.drewN nq).setCell ⟨G, y, none⟩ (.int .i64 (va : Int))) (.slice (some ⟨G, 0, none⟩) k c) (ys.set y va) := fun nq => Own.put (w := wr.drewN nq) hO.out HN.out y va
                  have P1 : ∀ nq, ((wr.drewN nq).setCell ⟨G, y, none⟩ (.int .i64 (va : Int))).cell? ⟨G, y, none⟩ = some (.int .i64 (va : Int)) := fun nq => by rw [(O2 nq).cell' (by simp [HN.out]) l2, lf_set (by rw [HN.out]; exact l2), if_pos rfl]
                  have P2 : ∀ nq, ((wr.drewN nq).setCell ⟨G, y, none⟩ (.int .i64 (va : Int))).cell? ⟨G, x, none⟩ = some (.int .i64 (va : Int)) := fun nq => by rw [(O2 nq).cell' (by simp [HN.out]) l1, lf_set (by rw [HN.out]; exact l2), if_neg (by omega), HV.out.1]
                  have s3 : ¬ (va : Int) < (va : Int) := by omega
                  have hsum : (ys.set y va).sum < xs.sum := by
                    have h := hS.out
                    have := hP.2
                    cases b
                    · rw [← h.1]; exact this
                    · simp at h; omega
                  have HS2 := Lib.hid hsum
                  have HP := Lib.hid hP.1
                  have HO := Lib.hid O2
                  have B2 : ∀ nq, Below w.heap.size w ((wr.drewN nq).setCell ⟨G, y, none⟩ (.int .i64 (va : Int))) := fun nq => (below_drewN hB nq).setCell hBG _
                  clear hS hP O2 hsum
                  go_wp2_with fail
                  go_quiet (fail)
                  go_wp2_with fail
                  go_quiet (fail)
                  go_wp2_with fail
                  go_quiet (fail)
                  go_wp2
                  exact ⟨⟨true, ys.set y va, i + 1, rfl, rfl, hlt, Lib.hid (HO.out _), HP, HS2, below_drewN (B2 _) _⟩, by simp [intOf]; omega⟩
                · subst tri
                  have s1 : decide ((va : Int) < (va : Int)) = false := by simp
                  have s2 : ¬ (va : Int) < (va : Int) := by omega
                  have hS2 : if b then ys.sum < xs.sum else ys = xs ∧ Seen l but (i + 1) ys := by
                    have h := hS.out
                    cases b
                    · exact ⟨h.1, h.2.next hil (fun _ => by rw [← HX.out.1, ← HX.out.2, ← HV.out.1, ← HV.out.2])⟩
                    · exact h
                  have HS2 := Lib.hid hS2
                  clear hS2 hS
                  go_wp2_with fail
                  go_quiet (fail)
                  go_wp2_with fail
                  go_quiet (fail)
                  go_wp2_with fail
                  go_quiet (fail)
                  go_wp2
                  exact ⟨⟨b, ys, i + 1, rfl, rfl, hlt, hO, hL, HS2, below_drewN hB _⟩, by simp [intOf]; omega⟩
                · have s1 : (vb : Int) < (va : Int) := by omega
                  have s2 : ¬ (va : Int) < (vb : Int) := by omega
                  have hP := hL.out.put' (a := y) (b := x) (va := vb) l2 l1 (.inr HE.out) HV.out.2 (by rw [← HV.out.1]; omega)
                  have O2 : ∀ nq, Own w.heap.size ((wr.drewN nq).setCell ⟨G, x, none⟩ (.int .i64 (vb : Int))) (.slice (some ⟨G, 0, none⟩) k c) (ys.set x vb) := fun nq => Own.put (w := wr.drewN nq) hO.out HN.out x vb
                  have P1 : ∀ nq, ((wr.drewN nq).setCell ⟨G, x, none⟩ (.int .i64 (vb : Int))).cell? ⟨G, x, none⟩ = some (.int .i64 (vb : Int)) := fun nq => by rw [(O2 nq).cell' (by simp [HN.out]) l1, lf_set (by rw [HN.out]; exact l1), if_pos rfl]
                  have P2 : ∀ nq, ((wr.drewN nq).setCell ⟨G, x, none⟩ (.int .i64 (vb : Int))).cell? ⟨G, y, none⟩ = some (.int .i64 (vb : Int)) := fun nq => by rw [(O2 nq).cell' (by simp [HN.out]) l2, lf_set (by rw [HN.out]; exact l1), if_neg (by omega), HV.out.2]
                  have s3 : ¬ (vb : Int) < (vb : Int) := by omega
                  have hsum : (ys.set x vb).sum < xs.sum := by
                    have h := hS.out
                    have := hP.2
                    cases b
                    · rw [← h.1]; exact this
                    · simp at h; omega
                  have HS2 := Lib.hid hsum
                  have HP := Lib.hid hP.1
                  have HO := Lib.hid O2
                  have B2 : ∀ nq, Below w.heap.size w ((wr.drewN nq).setCell ⟨G, x, none⟩ (.int .i64 (vb : Int))) := fun nq => (below_drewN hB nq).setCell hBG _
                  clear hS hP O2 hsum
                  go_wp2_with fail
                  go_quiet (fail)
                  go_wp2_with fail
                  go_quiet (fail)
                  go_wp2_with fail
                  go_quiet (fail)
                  go_wp2
                  exact ⟨⟨true, ys.set x vb, i + 1, rfl, rfl, hlt, Lib.hid (HO.out _), HP, HS2, B2 _⟩, by simp [intOf]; omega⟩
            · have g : decide ((i : Int) < (most : Int)) = false := by simp; omega
              have e : i = most := by omega
              subst e
              have hS2 := hS.out
              go_wp2
              go_roundg (ys.sum + (if b then 1 else 0))
              case measure =>
                have h1 := hkk.out
                cases b
                · have := hS2.1
                  subst this
                  simp at h1 ⊢; omega
                · simp at h1 hS2 ⊢; omega
              case rel => exact ⟨b, ys, rfl, Lib.hid (Nat.le_refl _), hO, hL, Lib.hid (fun e => by subst e; exact hS2.2), hB⟩
end Go.Proofs.Ytampfciacjifgaa
