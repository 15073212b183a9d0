/- The reference's Mul. -/
import Derived.Test.YtplepbaafamjfaaV29
import Derived.OwnWalk
namespace Go.Proofs.Ytplepbaafamjfaa
open Go.ChangeShapes Go.WideShapes Go.ChangeAt Go.RowKit
set_option linter.unusedVariables false
set_option linter.unusedSimpArgs false

theorem info3i : (Try.prog.info? 3).map (fun i => (i.zero, i.size, i.bytes)) = some (some (.int .i64 0), 1, 8) := by kernel_rfl
theorem own_on {w w1 : World} {base n size : Nat} {e : TypeId} {v : Value} {xs : List Value} (h : w.ownsRow base e size v n xs) (hb : Below w.heap.size w w1) : w1.ownsRow base e size v n xs := by
  refine ⟨h.1, ?_⟩
  rcases h.2 with h | ⟨g, cap, cur, h1, h2, h3, h4⟩
  · exact .inl h
  · exact .inr ⟨g, cap, cur, h1, h2, (hb.block g (Array.getElem?_eq_some_iff.1 h3).1).trans h3, h4⟩
theorem own_ge {w : World} {base : Nat} {e : TypeId} {size n : Nat} {v : Value} {xs : List Value} (h : w.ownsRow base e size v n xs) : ∀ k, v.ownBlock = some k → base ≤ k := by
  intro k hk
  rcases h.2 with ⟨rfl, _⟩ | ⟨g, cap, cur, rfl, hg, _⟩
  · cases hk
  · simp [Value.ownBlock] at hk; omega
theorem env_grow {w wa w1 : World} {row : Option Nat} {al ah bl bh : Int} (E : Env w wa [⟨w.heap.size + 1 + 1, 23, 0, 0⟩, ⟨w.heap.size + 1, 23, bl, bh⟩, ⟨w.heap.size, 23, al, ah⟩]) (hg : wa.grownBy w1 row) (hge : ∀ k, row = some k → w.heap.size + 1 + 1 + 1 ≤ k) :
    Env w w1 [⟨w.heap.size + 1 + 1, 23, 0, 0⟩, ⟨w.heap.size + 1, 23, bl, bh⟩, ⟨w.heap.size, 23, al, ah⟩] := by
  obtain ⟨b, h1, h2, h3, h4⟩ := E
  refine ⟨b.grown hg b.size (fun k hk => by have := hge k hk; omega), h1.grown_ hg (fun e => ?_), h2.grown_ hg (fun e => ?_), h3.grown_ hg (fun e => ?_), h4⟩
  all_goals have := hge _ e.symm
  all_goals simp at this
  all_goals omega
theorem own_read {w : World} {base g o n cap : Nat} {e : TypeId} {xs : List Value} (h : w.ownsRow base e 1 (.slice (some ⟨g, o, none⟩) n cap) n xs) (k : Nat) (hk : k < xs.length) : o = 0 ∧ w.cell? ⟨g, k, none⟩ = some xs[k] := by
  rcases h.2 with h | ⟨g', cap', cur, h1, h2, h3, h4, h5, h6, h7⟩
  · cases h.1
  · simp only [Value.slice.injEq, Option.some.injEq, Addr.mk.injEq] at h1
    obtain ⟨⟨rfl, rfl, -⟩, -, rfl⟩ := h1
    refine ⟨rfl, ?_⟩
    rw [cell_of_row w g k cur e (0, 0) h3]
    subst h7
    simp at hk ⊢
theorem least_own (a b c d : Int) (v : Value) (base : Nat) (W : World) (h : W.ownsRow base 3 1 v 4 [.int .i64 a, .int .i64 b, .int .i64 c, .int .i64 d]) :
    Calls Try.prog 49 #[v] W fun e w' => e = .returned (.int .i64 (mn4 a b c d)) ∧ W = w' := by
  rcases h.2 with ⟨_, h0⟩ | ⟨g, cap, cur, rfl, _⟩
  · cases h0
  · exact least_any [a, b, c, d] g 0 4 cap W (by omega) (by omega) rfl (by
      intro k hk
      have hk' : k < 4 := by simpa using hk
      have : k = 0 ∨ k = 1 ∨ k = 2 ∨ k = 3 := by omega
      rcases this with rfl | rfl | rfl | rfl
      · exact (own_read h 0 (by simp)).2
      · exact (own_read h 1 (by simp)).2
      · exact (own_read h 2 (by simp)).2
      · exact (own_read h 3 (by simp)).2)
theorem greatest_own (a b c d : Int) (v : Value) (base : Nat) (W : World) (h : W.ownsRow base 3 1 v 4 [.int .i64 a, .int .i64 b, .int .i64 c, .int .i64 d]) :
    Calls Try.prog 48 #[v] W fun e w' => e = .returned (.int .i64 (mx4 a b c d)) ∧ W = w' := by
  rcases h.2 with ⟨_, h0⟩ | ⟨g, cap, cur, rfl, _⟩
  · cases h0
  · exact greatest_any [a, b, c, d] g 0 4 cap W (by omega) (by omega) rfl (by
      intro k hk
      have hk' : k < 4 := by simpa using hk
      have : k = 0 ∨ k = 1 ∨ k = 2 ∨ k = 3 := by omega
      rcases this with rfl | rfl | rfl | rfl
      · exact (own_read h 0 (by simp)).2
      · exact (own_read h 1 (by simp)).2
      · exact (own_read h 2 (by simp)).2
      · exact (own_read h 3 (by simp)).2)

end Go.Proofs.Ytplepbaafamjfaa
