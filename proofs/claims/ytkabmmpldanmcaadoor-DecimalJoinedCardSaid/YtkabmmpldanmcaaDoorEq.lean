/- Contracts: slices.Equal on lists of tokens, IsName of both. -/
import Derived.Test.YtkabmmpldanmcaaDoorAwk
import Derived.Laws.StructEq
namespace Go.Proofs.YtkabmmpldanmcaaDoor
open Go.ChangeShapes Go.WideShapes Go.ChangeAt Go.RowKit
set_option linter.unusedVariables false

/-- The slice's cells are those of the tokens. -/
def Toks (w : World) (g : Nat) (ts : List Tok) : Prop := ∀ j u, (tcells ts)[j]? = some u → w.cell? ⟨g, j, none⟩ = some u

theorem tcells_get : ∀ (ts : List Tok) (k : Nat) (h : k < ts.length) (j : Nat), j < 4 → (tcells ts)[k * 4 + j]? = (tcell ts[k])[j]?
  | [], _, h, _, _ => by simp at h
  | t :: r, 0, _, j, hj => by
    have e : tcells (t :: r) = tcell t ++ tcells r := by simp [tcells]
    rw [e, List.getElem?_append_left (by simp [tcell]; omega)]
    simp
  | t :: r, k + 1, h, j, hj => by
    have e : tcells (t :: r) = tcell t ++ tcells r := by simp [tcells]
    rw [e, List.getElem?_append_right (by simp [tcell]; omega)]
    have h4 : (tcell t).length = 4 := by simp [tcell]
    rw [h4, show (k + 1) * 4 + j - 4 = k * 4 + j by omega, tcells_get r k (by simpa using h) j hj]
    simp

theorem toks_at {w : World} {g : Nat} {ts : List Tok} (h : Toks w g ts) (k : Nat) (hk : k < ts.length) :
    w.cell? ⟨g, k * 4, none⟩ = some (.int .i64 ts[k].kind) ∧ w.cell? ⟨g, k * 4 + 1, none⟩ = some (.string ⟨ts[k].text.toArray⟩) ∧ w.cell? ⟨g, k * 4 + 2, none⟩ = some (.int .i64 ts[k].line) ∧ w.cell? ⟨g, k * 4 + 3, none⟩ = some (.int .i64 ts[k].col) :=
  ⟨h _ _ (tcells_get ts k hk 0 (by omega)), h _ _ (tcells_get ts k hk 1 (by omega)), h _ _ (tcells_get ts k hk 2 (by omega)), h _ _ (tcells_get ts k hk 3 (by omega))⟩

def nameB (l : List UInt8) : Bool := !l.isEmpty && ((firstL l).1 == 1) && ((firstL l).2 == l.length)

theorem firstL_one {c : UInt8} {r : List UInt8} (h : (firstL (c :: r)).1 = 1) : (97 ≤ (c.toNat : Int) ∧ (c.toNat : Int) ≤ 122) ∨ (65 ≤ (c.toNat : Int) ∧ (c.toNat : Int) ≤ 90) := by
  have e : firstL (c :: r) = firstC (cls (c.toNat : Int)) c r := rfl
  rw [e] at h
  cases hk : cls (c.toNat : Int) <;> rw [hk] at h <;> simp only [firstC] at h
  case let_ =>
    unfold cls at hk; repeat' split at hk
    all_goals first | assumption | contradiction
  all_goals first | (exact absurd h (by decide)) | (split at h <;> exact absurd h (by decide))

theorem nonempty {s : ByteArray} (h0 : 0 < s.size) : s.data.toList.isEmpty = false := by
  have hz : s.data.toList.length = s.size := by simp
  cases he : s.data.toList with
  | nil => rw [he] at hz; simp at hz; omega
  | cons c r => rfl

end Go.Proofs.YtkabmmpldanmcaaDoor
