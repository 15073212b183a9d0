/- The program: barOf, at every line of a text. -/
import Derived.Test.YthdafpbmmfelpaaGreatDoorBq
import Derived.Test.YthdafpbmmfelpaaGreatDoorShf
import Derived.Lib.SplitLaws
namespace Go.Proofs.YthdafpbmmfelpaaGreatDoor
open Go.ChangeShapes Go.WideShapes Go.ChangeAt Go.RowKit Dec
set_option linter.unusedVariables false
set_option linter.unusedSimpArgs false

theorem split_size (sep : ByteArray) : ∀ (k : Nat) (s x : ByteArray), x ∈ Lib.splitB sep 0 k s → x.size ≤ s.size
  | 0, s, x, h => by
    rw [Lib.splitB_zero, List.mem_singleton] at h
    rw [h]; exact Nat.le_refl _
  | k + 1, s, x, h => by
    unfold Lib.splitB at h
    split at h
    · rw [List.mem_singleton] at h
      rw [h]; exact Nat.le_refl _
    · rcases List.mem_cons.1 h with h | h
      · rw [h, ByteArray.size_extract]; omega
      · have := split_size sep k _ x h
        rw [ByteArray.size_extract] at this
        omega
/-- A line without its end, and whether it had one. -/
def lnT (s : ByteArray) : ByteArray := ⟨(Lib.trimSuffix s.data.toList [10]).toArray⟩
def lnE (s : ByteArray) : Bool := Lib.hasSuffix s.data.toList [10]
/-- The words of a line. -/
def lnW (s : ByteArray) : List ByteArray := Lib.splitB ⟨#[32]⟩ 0 (Lib.countB (lnT s) ⟨#[32]⟩) (lnT s)
theorem trim_len (l : List UInt8) : (Lib.trimSuffix l [10]).length ≤ l.length := by
  unfold Lib.trimSuffix
  split <;> simp
theorem lnT_size (s : ByteArray) : (lnT s).size ≤ s.size := by
  have h := trim_len s.data.toList
  have e : (lnT s).size = (Lib.trimSuffix s.data.toList [10]).length := by simp [lnT, ByteArray.size]
  have e2 : s.data.toList.length = s.size := by simp
  omega
theorem lnW_len (s : ByteArray) : (lnW s).length = Lib.countB (lnT s) ⟨#[32]⟩ + 1 := Lib.splitB_all ⟨#[32]⟩ (by decide) 0 _ _ rfl
theorem lnW_le (s : ByteArray) : (lnW s).length ≤ s.size + 1 := by
  have h1 := Lib.countB_le ⟨#[32]⟩ (by decide) (lnT s).size (lnT s) (Nat.le_refl _)
  have h2 := lnT_size s
  rw [lnW_len]; omega
theorem cut79 (s : ByteArray) (hs : s.size ≤ 262144) : ∀ W, Calls Tryz.prog 79 #[.string s, .string ⟨#[10]⟩] W fun e w' => e = .returned (.tuple #[.string (lnT s), .bool (lnE s)]) ∧ w' = W := fun W =>
  Tryz.strings_CutSuffix s ⟨#[10]⟩ W (by omega)
theorem split80 (s : ByteArray) (hs : s.size ≤ 262144) : ∀ W, Cut1 W → Calls Tryz.prog 80 #[.string (lnT s), .string ⟨#[32]⟩] W fun e w' => e = .returned (.slice (some ⟨W.heap.size, 0, none⟩) (lnW s).length (lnW s).length) ∧ w' = W.alloc (.cells ((lnW s).map Value.string).toArray 9) := fun W hC => by
  obtain ⟨m, hm⟩ := hC
  have h2 := lnT_size s
  have h := Tryz.strings_Split (lnT s) ⟨#[32]⟩ m W (by omega) hm (by decide)
  rw [lnW_len]
  exact h
/-- What barOf says of a line. -/
def lnB (s : ByteArray) : Bool := lnE s && (decide (5 ≤ (lnW s).length) && wrdsB (lnW s))
theorem barOf_any (s : ByteArray) (w : World) (hs : s.size ≤ 262144) (hC : Cut1 w) (hF : Frm w) :
    Calls Tryz.prog 48 #[.string s] w fun e w' => (lnB s = false → e = .returned (.tuple #[zeroB, .bool false])) ∧ (lnB s = true → ∃ p c, e = .returned (.tuple #[.agg #[.string ((lnW s).getD 0 ⟨#[]⟩), .int .i64 (wrdV 1 ((lnW s).getD 1 ⟨#[]⟩)), .int .i64 (wrdV 2 ((lnW s).getD 2 ⟨#[]⟩)), .int .i64 (wrdV 3 ((lnW s).getD 3 ⟨#[]⟩)), .slice p ((lnW s).length - 4) c], .bool true]) ∧ (∀ a, p = some a → w.heap.size ≤ a.block) ∧ Rdz w' (.slice p ((lnW s).length - 4) c) ((vals (lnW s) (lnW s).length).drop 4)) ∧ Below w.heap.size w w' := by
  have hle := lnW_le s
  have h79 := cut79 s hs
  have h80 := split80 s hs
  have hsz : ∀ x ∈ lnW s, x.size ≤ maxLen := fun x hx => by
    have h1 := split_size _ _ _ x hx
    have h2 := lnT_size s
    unfold maxLen; omega
  have hno : lnE s = false ∨ (lnW s).length < 5 → lnB s = false := fun h => by
    unfold lnB
    rcases h with h | h
    · rw [h]; rfl
    · have : decide (5 ≤ (lnW s).length) = false := by simp; omega
      rw [this]; simp
  by_cases hn : lnE s = false ∨ (lnW s).length < 5
  · refine (barOf_no s (lnT s) (lnW s) (lnE s) w h79 h80 hC (by unfold maxLen; omega) hn).mono ?_
    rintro e w' ⟨rfl, hb⟩
    exact ⟨fun _ => rfl, fun h => (by rw [hno hn] at h; cases h), hb⟩
  · have hE : lnE s = true := by
      cases h : lnE s
      · exact absurd (.inl h) hn
      · rfl
    have h5 : 5 ≤ (lnW s).length := by
      rcases Nat.lt_or_ge (lnW s).length 5 with h | h
      · exact absurd (.inr h) hn
      · exact h
    have hB : lnB s = wrdsB (lnW s) := by
      unfold lnB
      have : decide (5 ≤ (lnW s).length) = true := by simp; omega
      rw [hE, this]; rfl
    rw [hE] at h79
    rw [hB]
    exact barOf_words s (lnT s) (lnW s) w h79 h80 hC hF (by omega) hsz h5
end Go.Proofs.YthdafpbmmfelpaaGreatDoor
