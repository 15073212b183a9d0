/- Plain facts on bytes: scanning a string while a test holds. Nothing of the program. -/
import Derived.Lib.Hide
namespace Go.Proofs.Ythphgppgdlimeaa.Dec

def dgB (c : Int) : Bool := decide (48 ≤ c ∧ c ≤ 57)
def ltB (c : Int) : Bool := decide ((97 ≤ c ∧ c ≤ 122) ∨ (65 ≤ c ∧ c ≤ 90))
def wdB (c : Int) : Bool := ltB c || dgB c || c == 95
def noNl (c : Int) : Bool := c != 10
theorem dgB_iff {c : Int} : dgB c = true ↔ 48 ≤ c ∧ c ≤ 57 := by unfold dgB; simp
theorem dgB_no {c : Int} : dgB c = false ↔ ¬ (48 ≤ c ∧ c ≤ 57) := by unfold dgB; simp
theorem ltB_iff {c : Int} : ltB c = true ↔ (97 ≤ c ∧ c ≤ 122) ∨ (65 ≤ c ∧ c ≤ 90) := by unfold ltB; simp
theorem ltB_no {c : Int} : ltB c = false ↔ ¬ ((97 ≤ c ∧ c ≤ 122) ∨ (65 ≤ c ∧ c ≤ 90)) := by
  rw [← Bool.not_eq_true, ltB_iff]

/-- How many bytes at the head of a list meet a test. -/
def cnt (p : Int → Bool) : List UInt8 → Nat
  | [] => 0
  | c :: r => if p (c.toNat : Int) = true then cnt p r + 1 else 0

theorem cnt_le (p : Int → Bool) : ∀ l : List UInt8, cnt p l ≤ l.length
  | [] => by simp [cnt]
  | c :: r => by have := cnt_le p r; unfold cnt; split <;> simp <;> omega

theorem cnt_get (p : Int → Bool) : ∀ (l : List UInt8) (j : Nat) (h : j < l.length), j < cnt p l → p ((l[j]).toNat : Int) = true
  | [], _, h, _ => by simp at h
  | c :: r, j, h, hj => by
    unfold cnt at hj
    split at hj
    · rename_i hp
      cases j with
      | zero => simpa using hp
      | succ j => simpa using cnt_get p r j (by simpa using h) (by omega)
    · omega

theorem cnt_stop (p : Int → Bool) : ∀ (l : List UInt8) (h : cnt p l < l.length), p ((l[cnt p l]).toNat : Int) = false
  | [], h => by simp at h
  | c :: r, h => by
    by_cases hp : p (c.toNat : Int) = true
    · have e : cnt p (c :: r) = cnt p r + 1 := by rw [cnt, if_pos hp]
      have h' : cnt p r < r.length := by rw [e] at h; simpa using h
      have := cnt_stop p r h'
      simp only [e]
      simpa using this
    · have e : cnt p (c :: r) = 0 := by rw [cnt, if_neg hp]
      simp only [e]
      simpa using hp

/-- The first place from k on at which a byte does not meet the test (or the end). -/
def scan (p : Int → Bool) (s : ByteArray) (k : Nat) : Nat := k + cnt p (s.data.toList.drop k)

theorem drop_at (s : ByteArray) (k : Nat) (h : k < s.size) : s.data.toList.drop k = s[k] :: s.data.toList.drop (k + 1) := by
  have h' : k < s.data.toList.length := by simpa using h
  rw [List.drop_eq_getElem_cons h']; rfl

theorem scan_yes (p : Int → Bool) (s : ByteArray) (k : Nat) (h : k < s.size) (hp : p (s[k].toNat : Int) = true) : scan p s k = scan p s (k + 1) := by
  unfold scan; rw [drop_at s k h, cnt, if_pos hp]; omega

theorem scan_no (p : Int → Bool) (s : ByteArray) (k : Nat) (h : k < s.size) (hp : p (s[k].toNat : Int) = false) : scan p s k = k := by
  unfold scan; rw [drop_at s k h, cnt, if_neg (by simp [hp])]; omega

theorem scan_end (p : Int → Bool) (s : ByteArray) (k : Nat) (h : s.size ≤ k) : scan p s k = k := by
  unfold scan; rw [List.drop_eq_nil_of_le (by simpa using h)]; rfl

theorem scan_le (p : Int → Bool) (s : ByteArray) (k : Nat) (h : k ≤ s.size) : k ≤ scan p s k ∧ scan p s k ≤ s.size := by
  have := cnt_le p (s.data.toList.drop k)
  unfold scan
  simp at this
  constructor
  · omega
  · have h2 : s.data.size = s.size := rfl
    omega
end Go.Proofs.Ythphgppgdlimeaa.Dec
