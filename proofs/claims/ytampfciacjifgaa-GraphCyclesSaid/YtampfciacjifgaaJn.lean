/- Sets of nodes: join, alone. -/
import Derived.Test.YtampfciacjifgaaSet
namespace Go.Proofs.Ytampfciacjifgaa
open Go.ChangeShapes Go.WideShapes Go.ChangeAt Go.RowKit
set_option linter.unusedVariables false
set_option linter.unusedSimpArgs false

theorem root_join {p : Nat → Nat} (wf : ∀ j, p j ≤ j) {x y : Nat} (hx : root p x = x) (hy : root p y = y) (hyx : y ≤ x) : ∀ j, root (upd p x y) j = if root p j = x then y else root p j := by
  intro j
  induction j using Nat.strongRecOn with
  | _ j ih =>
    by_cases e : j = x
    · subst e
      rw [hx, if_pos rfl]
      by_cases h : y < j
      · rw [root_go (by rw [upd_same]; exact h), upd_same, ih _ h, hy, if_neg (by omega)]
      · rw [root_end (by rw [upd_same]; exact h)]; omega
    · have u : upd p x y j = p j := upd_other e
      by_cases h : p j < j
      · rw [root_go (by rw [u]; exact h), u, ih _ h, root_go h]
      · rw [root_end (by rw [u]; exact h), root_end h, if_neg e]
/-- The first nodes behind a join. -/
def joinR (R : Nat → Nat) (a b : Nat) (j : Nat) : Nat := if R j = max (R a) (R b) then min (R a) (R b) else R j
theorem Sets.le {w : World} {g n : Nat} {R : Nat → Nat} (h : Sets w g n R) (j : Nat) : R j ≤ j := by obtain ⟨p, -, -, k⟩ := h; rw [← k]; exact root_le p j
theorem Sets.idem {w : World} {g n : Nat} {R : Nat → Nat} (h : Sets w g n R) (j : Nat) : R (R j) = R j := by obtain ⟨p, -, -, k⟩ := h; rw [← k j, ← k]; exact root_root p j
theorem Sets.open_ {w : World} {g n : Nat} {R : Nat → Nat} (h : Sets w g n R) (i : Nat) : w.frozen? ⟨g, i, none⟩ = false := by obtain ⟨p, k, -⟩ := h; exact Has.open_ k i
theorem Sets.size_ {w : World} {g n : Nat} {R : Nat → Nat} (h : Sets w g n R) : g < w.heap.size := by obtain ⟨p, k, -⟩ := h; exact Has.size_ k
theorem Sets.cell {w : World} {g n : Nat} {R : Nat → Nat} (h : Sets w g n R) {i : Nat} (hi : i < n) : ∃ v : Value, w.cell? ⟨g, i, none⟩ = some v := by obtain ⟨p, k, -⟩ := h; exact ⟨_, k.read hi⟩
theorem Sets.join {w : World} {g n : Nat} {R : Nat → Nat} (h : Sets w g n R) (a b : Nat) {z : Int} (hz : z = ((min (R a) (R b) : Nat) : Int)) : Sets (w.setCell ⟨g, max (R a) (R b), none⟩ (.int .i64 z)) g n (joinR R a b) := by
  subst hz
  have i1 := h.idem a
  have i2 := h.idem b
  obtain ⟨p, k, wf, hr⟩ := h
  refine ⟨upd p (max (R a) (R b)) (min (R a) (R b)), (Row.put k _ _).cong (fun i _ => by unfold upd; split <;> rfl), ?_, fun j => ?_⟩
  · intro j; unfold upd; split
    · subst_vars; omega
    · exact wf j
  · have hm : root p (max (R a) (R b)) = max (R a) (R b) := by
      rw [hr]; rcases Nat.le_total (R a) (R b) with h | h
      · rw [Nat.max_eq_right h]; exact i2
      · rw [Nat.max_eq_left h]; exact i1
    have hn : root p (min (R a) (R b)) = min (R a) (R b) := by
      rw [hr]; rcases Nat.le_total (R a) (R b) with h | h
      · rw [Nat.min_eq_left h]; exact i1
      · rw [Nat.min_eq_right h]; exact i2
    rw [root_join wf hm hn (by omega), hr]; rfl

set_option maxRecDepth 100000 in
theorem join_any (g n a b : Nat) (R : Nat → Nat) (w : World) (hn : n ≤ 1000) (h : Sets w g n R) (ha : a < n) (hb : b < n) :
    Calls Try.prog 38 #[.slice (some ⟨g, 0, none⟩) n n, .int .i64 a, .int .i64 b] w fun e w' => e = .returned (.bool (decide (R a ≠ R b))) ∧ Sets w' g n (joinR R a b) ∧ At g w w' := by
  have L1 : R a < n := by have := h.le a; omega
  have L2 : R b < n := by have := h.le b; omega
  rcases Nat.lt_trichotomy (R a) (R b) with c | c | c
  · have em : max (R a) (R b) = R b := by omega
    have en : ((R a : Nat) : Int) = ((min (R a) (R b) : Nat) : Int) := by omega
    have S := fun w1 (hS : Sets w1 g n R) => em ▸ hS.join a b en
    have E : decide (R a ≠ R b) = true := by simp; omega
    have c0 : ((R a : Nat) : Int) < (R b : Nat) := by omega
    have c1 : (((R a : Nat) : Int) != (R b : Nat)) = true := by simp; omega
    have HC := Lib.hid c; clear c em en
    go_enter Try.func38, Try.ntmps38
    go_wp2_with (first
      | (go_at_call 64; first
          | ((with_reducible refine (find_any g n a R _ hn h ha).mono ?_); rintro e w1 ⟨rfl, h1, A1⟩)
          | ((with_reducible refine (find_any g n b R _ hn h1 hb).mono ?_); rintro e w2 ⟨rfl, h2, A2⟩; obtain ⟨z, hz⟩ := h2.cell L2; have FF := h2.open_ (R b))))
    go_ret
    exact ⟨by rw [E]; rfl, S _ h2, (A1.trans A2).put _ _⟩
  · have em : max (R a) (R b) = R b := by omega
    have en : ((R b : Nat) : Int) = ((min (R a) (R b) : Nat) : Int) := by omega
    have S := fun w1 (hS : Sets w1 g n R) => em ▸ hS.join a b en
    have E : decide (R a ≠ R b) = false := by simp; omega
    clear em en
    go_enter Try.func38, Try.ntmps38
    go_wp2_with (first
      | (go_at_call 64; first
          | ((with_reducible refine (find_any g n a R _ hn h ha).mono ?_); rw [c]; rintro e w1 ⟨rfl, h1, A1⟩)
          | ((with_reducible refine (find_any g n b R _ hn h1 hb).mono ?_); rintro e w2 ⟨rfl, h2, A2⟩; obtain ⟨z, hz⟩ := h2.cell L2; have FF := h2.open_ (R b))))
    go_ret
    exact ⟨by rw [E]; rfl, S _ h2, (A1.trans A2).put _ _⟩
  · have em : max (R a) (R b) = R a := by omega
    have en : ((R b : Nat) : Int) = ((min (R a) (R b) : Nat) : Int) := by omega
    have S := fun w1 (hS : Sets w1 g n R) => em ▸ hS.join a b en
    have E : decide (R a ≠ R b) = true := by simp; omega
    have c0 : ((R b : Nat) : Int) < (R a : Nat) := by omega
    have c1 : (((R a : Nat) : Int) != (R b : Nat)) = true := by simp; omega
    have HC := Lib.hid c; clear c em en
    go_enter Try.func38, Try.ntmps38
    go_wp2_with (first
      | (go_at_call 64; first
          | ((with_reducible refine (find_any g n a R _ hn h ha).mono ?_); rintro e w1 ⟨rfl, h1, A1⟩)
          | ((with_reducible refine (find_any g n b R _ hn h1 hb).mono ?_); rintro e w2 ⟨rfl, h2, A2⟩; obtain ⟨z, hz⟩ := h2.cell L1; have FF := h2.open_ (R a))))
    go_ret
    exact ⟨by rw [E]; rfl, S _ h2, (A1.trans A2).put _ _⟩

theorem info3 : (Try.prog.info? 3).map (fun i => (i.zero, i.size, i.bytes)) = some (some (.int .i64 0), 1, 8) := by kernel_rfl
theorem has_full {w : World} {base g n size : Nat} {e : TypeId} {xs : List Value} (h : w.ownsRow base e size (.slice (some ⟨g, 0, none⟩) n n) n xs) : Has w g e xs.toArray := by
  obtain ⟨hl, ⟨h, -⟩ | ⟨g', cap, cur, hv, -, hg, -, -, hs, ht⟩⟩ := h
  · cases h
  · simp only [Value.slice.injEq, Option.some.injEq, Addr.mk.injEq] at hv
    obtain ⟨⟨rfl, -⟩, -, rfl⟩ := hv
    have : cur = xs.toArray := by
      rw [← ht, List.take_of_length_le (by simp [hs])]
    rw [this] at hg; exact hg
theorem row_zero {w : World} {base g n : Nat} (h : w.ownsRow base 3 1 (.slice (some ⟨g, 0, none⟩) n n) n (madeCells #[Value.int .i64 0] n).toList) : Row w g n (fun _ => 0) := by
  have k := has_full h
  unfold Row
  have e : (madeCells #[Value.int .i64 0] n).toList = (List.range n).map fun _ => Value.int .i64 0 := by
    rw [toList_madeCells_one]
    apply List.ext_getElem <;> simp
  rw [e] at k; exact k
theorem below_grown {B : Nat} {a w w' : World} (h : Below B a w) (hg : w.grownBy w' none) (hB : B ≤ w.heap.size) : Below B a w' := h.grown hg hB (fun k hk => by cases hk)

set_option maxRecDepth 100000 in
theorem alone_any (n : Nat) (w : World) (hn : n ≤ 1000) :
    Calls Try.prog 37 #[.int .i64 n] w fun e w' => e = .returned (.slice (some ⟨w.heap.size, 0, none⟩) n n) ∧ Sets w' w.heap.size n id ∧ Below w.heap.size w w' := by
  obtain ⟨i0, hi, hz0, hz1, hz2⟩ := info_parts info3
  go_enter Try.func37, Try.ntmps37
  go_wp2_with (at_make; refine wpList_make_full _ rfl _ _ 53 rfl w.heap.size 3 i0 _ 1 Try.underlying53 hi hz0 hz1 _ _ _ _ n rfl rfl rfl rfl (by rw [hz2]; omega) (by unfold maxLen; omega) (Nat.le_refl _) ?_)
  intro w1 hown hgrow
  have hR := row_zero hown
  have hB := below_grown (Below.refl _ w) hgrow (Nat.le_refl _)
  clear hown hgrow
  go_wp2
  go_loopw [9] (fun v wr => ∃ k : Nat, v = .int .i64 k ∧ k ≤ n ∧ Hid (Row wr w.heap.size n (fun j => if j < k then (j : Int) else 0)) ∧ Below w.heap.size w wr) (fun v _ => n - (intOf v).toNat)
  case atStart => exact ⟨0, rfl, Nat.zero_le _, Lib.hid (hR.cong fun i _ => by simp), hB⟩
  case round =>
    clear hR hB
    obtain ⟨k, rfl, hk, hR, hB⟩ := hrel
    by_cases hlt : k < n
    · have g : decide ((k : Int) < (n : Int)) = true := by simp [hlt]
      have c := hR.out.read hlt
      have F := Has.open_ hR.out k
      have W1 : IntKind.i64.wrap ((k : Int) + 1) = ((k + 1 : Nat) : Int) := by rw [IntWalk.i64_in _ (by omega)]; omega
      go_wp2
      refine ⟨⟨k + 1, rfl, hlt, Lib.hid ((hR.out.put k k).cong fun i _ => ?_), hB.setCell (Nat.le_refl _) _⟩, by simp [intOf]; omega⟩
      unfold upd
      by_cases h1 : i = k
      · subst h1; simp
      · by_cases h2 : i < k
        · simp [h1, h2, show i < k + 1 by omega]
        · simp [h1, h2, show ¬ i < k + 1 by omega]
    · have g : decide ((k : Int) < (n : Int)) = false := by simp; omega
      have e : k = n := by omega
      subst e
      go_wp2
      go_ret
      refine ⟨rfl, ⟨id, hR.out.cong fun i hi => by simp [hi], fun j => Nat.le_refl _, fun j => root_end (by simp)⟩, hB⟩
end Go.Proofs.Ytampfciacjifgaa
