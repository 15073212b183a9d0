/- Sets of nodes: the root of a node; find. -/
import Derived.Test.YtampfciacjifgaaBas
namespace Go.Proofs.Ytampfciacjifgaa
open Go.ChangeShapes Go.WideShapes Go.ChangeAt Go.RowKit
set_option linter.unusedVariables false
set_option linter.unusedSimpArgs false

/-- The first node of a node's set: where the way over what each node leads to ends. -/
def root (p : Nat → Nat) (j : Nat) : Nat := if p j < j then root p (p j) else j
termination_by j
theorem root_go {p : Nat → Nat} {j : Nat} (h : p j < j) : root p j = root p (p j) := by rw [root, if_pos h]
theorem root_end {p : Nat → Nat} {j : Nat} (h : ¬ p j < j) : root p j = j := by rw [root, if_neg h]
theorem root_le (p : Nat → Nat) : ∀ j, root p j ≤ j := by
  intro j
  induction j using Nat.strongRecOn with
  | _ j ih =>
    by_cases h : p j < j
    · rw [root_go h]; exact Nat.le_trans (ih _ h) (Nat.le_of_lt h)
    · rw [root_end h]; exact Nat.le_refl _
theorem root_root (p : Nat → Nat) : ∀ j, root p (root p j) = root p j := by
  intro j
  induction j using Nat.strongRecOn with
  | _ j ih =>
    by_cases h : p j < j
    · rw [root_go h]; exact ih _ h
    · rw [root_end h, root_end h]
/-- Halving leaves the roots. -/
theorem root_half {p : Nat → Nat} (wf : ∀ j, p j ≤ j) (a : Nat) : ∀ j, root (upd p a (p (p a))) j = root p j := by
  intro j
  induction j using Nat.strongRecOn with
  | _ j ih =>
    by_cases e : j = a
    · subst e
      have u : upd p j (p (p j)) j = p (p j) := upd_same _ _ _
      have l1 := wf j
      have l2 := wf (p j)
      by_cases h : p (p j) < j
      · rw [root_go (by rw [u]; exact h), u, ih _ h]
        by_cases h1 : p j < j
        · rw [root_go h1]
          by_cases h2 : p (p j) < p j
          · rw [root_go h2]
          · have : p (p j) = p j := by omega
            rw [this]
        · have : p j = j := by omega
          rw [this, this] at h; omega
      · have e1 : p j = j := by
          rcases Nat.lt_or_ge (p j) j with h1 | h1
          · omega
          · omega
        rw [root_end (by rw [u]; exact h), root_end (by omega)]
    · have u : upd p a (p (p a)) j = p j := upd_other e
      by_cases h : p j < j
      · rw [root_go (by rw [u]; exact h), u, ih _ h, root_go h]
      · rw [root_end (by rw [u]; exact h), root_end h]

/-- A disjoint-set forest of n nodes in block g, whose first nodes R gives. -/
def Sets (w : World) (g n : Nat) (R : Nat → Nat) : Prop := ∃ p : Nat → Nat, Row w g n (fun j => (p j : Int)) ∧ (∀ j, p j ≤ j) ∧ ∀ j, root p j = R j

set_option maxRecDepth 100000 in
theorem find_any (g n a : Nat) (R : Nat → Nat) (w : World) (hn : n ≤ 1000) (h : Sets w g n R) (ha : a < n) :
    Calls Try.prog 64 #[.slice (some ⟨g, 0, none⟩) n n, .int .i64 a] w fun e w' => e = .returned (.int .i64 (R a : Nat)) ∧ Sets w' g n R ∧ At g w w' := by
  go_enter Try.func64, Try.ntmps64
  go_wp2
  go_loopw [1] (fun v wr => ∃ b : Nat, v = .int .i64 b ∧ b < n ∧ Hid (Sets wr g n R) ∧ Hid (R b = R a) ∧ At g w wr) (fun v _ => (intOf v).toNat)
  case atStart => exact ⟨a, rfl, ha, Lib.hid h, Lib.hid rfl, At.refl _ _⟩
  case round =>
    obtain ⟨b, rfl, hb, hS, hR, hA⟩ := hrel
    obtain ⟨p, hp, wf, hr⟩ := hS.out
    have c1 := hp.read hb
    have l1 := wf b
    have l2 := wf (p b)
    have c2 := hp.read (i := p b) (by omega)
    have F := Has.open_ hp b
    have HP := Lib.hid hp
    have HW := Lib.hid wf
    have HQ := Lib.hid hr
    clear hp wf hr hS
    by_cases e : p b = b
    · have g1 : ((p b : Int) != (b : Int)) = false := by simp [e]
      go_wp2
      go_ret
      have : R b = b := by rw [← HQ.out, root_end (by omega)]
      exact ⟨ret_one (by rw [← hR.out, this]), ⟨p, HP.out, HW.out, HQ.out⟩, hA⟩
    · have g1 : ((p b : Int) != (b : Int)) = true := by simp; omega
      go_wp2
      have lt : p (p b) < b := by omega
      refine ⟨⟨p (p b), rfl, by omega, Lib.hid ⟨upd p b (p (p b)), (Row.put HP.out b (p (p b))).cong (fun i _ => by unfold upd; split <;> rfl), ?_, fun j => by rw [root_half HW.out, HQ.out]⟩, Lib.hid ?_, hA.put _ _⟩, by simp [intOf]; omega⟩
      · intro j; unfold upd; split
        · subst_vars; omega
        · exact HW.out j
      · rw [← hR.out, ← HQ.out b, root_go (show p b < b by omega), ← HQ.out (p (p b))]
        by_cases h2 : p (p b) < p b
        · rw [root_go h2]
        · have : p (p b) = p b := by omega
          rw [this]
end Go.Proofs.Ytampfciacjifgaa
