/- The program: barOf, lines that are refused at once. -/
import Derived.Test.YthdafpbmmfelpaaGreatDoorBo
namespace Go.Proofs.YthdafpbmmfelpaaGreatDoor
open Go.ChangeShapes Go.WideShapes Go.ChangeAt Go.RowKit Dec
set_option linter.unusedVariables false
set_option linter.unusedSimpArgs false

def zeroB : Value := .agg #[.string ⟨#[]⟩, .int .i64 0, .int .i64 0, .int .i64 0, .slice none 0 0]
set_option maxHeartbeats 4000000 in
set_option maxRecDepth 100000 in
theorem barOf_no (s t : ByteArray) (ws : List ByteArray) (ended : Bool) (w : World)
    (h79 : ∀ W, Calls Tryz.prog 79 #[.string s, .string ⟨#[10]⟩] W fun e w' => e = .returned (.tuple #[.string t, .bool ended]) ∧ w' = W)
    (h80 : ∀ W, Cut1 W → Calls Tryz.prog 80 #[.string t, .string ⟨#[32]⟩] W fun e w' => e = .returned (.slice (some ⟨W.heap.size, 0, none⟩) ws.length ws.length) ∧ w' = W.alloc (.cells (ws.map Value.string).toArray 9))
    (hC : Cut1 w) (hl : ws.length ≤ maxLen) (hn : ended = false ∨ ws.length < 5) :
    Calls Tryz.prog 48 #[.string s] w fun e w' => e = .returned (.tuple #[zeroB, .bool false]) ∧ Below w.heap.size w w' := by
  unfold maxLen at hl
  have E := ((Env.nil w).add w.heap.size 60 #[.string ⟨#[]⟩, .int .i64 0, .int .i64 0, .int .i64 0, .slice none 0 0] rfl).add (w.heap.size + 1) 9 (ws.map Value.string).toArray (by simp)
  have h80' := h80 _ (hC.on (al1 w (.cells #[.string ⟨#[]⟩, .int .i64 0, .int .i64 0, .int .i64 0, .slice none 0 0] 60)))
  obtain ⟨-, C0, C1, C2, C3, C4⟩ := s_b5 E.tail
  have hb := envb E
  clear E h80
  cases ended
  · clear hn
    go_enter Tryz.func48, Tryz.ntmps48
    go_wp2_with (first
      | (go_at_call 79; (with_reducible refine (h79 _).mono ?_); rintro X w1 ⟨rfl, rfl⟩)
      | (go_at_call 80; (with_reducible refine h80'.mono ?_); rintro X w2 ⟨rfl, rfl⟩))
    exact bodyPost_ret (v := .tuple #[zeroB, .bool false]) (by unfold zeroB; simp [results, Tryz.results48, go_sem, *]) rfl ⟨rfl, hb⟩
  · have h5 : ws.length < 5 := by rcases hn with h | h; cases h; exact h
    have g1 : decide ((ws.length : Int) < 5) = true := by simp; omega
    clear hn
    go_enter Tryz.func48, Tryz.ntmps48
    go_wp2_with (first
      | (go_at_call 79; (with_reducible refine (h79 _).mono ?_); rintro X w1 ⟨rfl, rfl⟩)
      | (go_at_call 80; (with_reducible refine h80'.mono ?_); rintro X w2 ⟨rfl, rfl⟩))
    exact bodyPost_ret (v := .tuple #[zeroB, .bool false]) (by unfold zeroB; simp [results, Tryz.results48, go_sem, *]) rfl ⟨rfl, hb⟩
end Go.Proofs.YthdafpbmmfelpaaGreatDoor
