/- Decimal texts, as plain functions on lists of bytes. Nothing of the program. -/
import Derived.Test.YthdafpbmmfelpaaGreatDoorM1
namespace Go.Proofs.YthdafpbmmfelpaaGreatDoor.Dec

def ch (d : Nat) : UInt8 := UInt8.ofNat (48 + d)

/-- The digits of n ahead of those that are there, at least so many. -/
def digs : Nat → Nat → Nat → List UInt8 → List UInt8
  | 0, _, _, acc => acc
  | f + 1, n, least, acc => if 0 < n ∨ acc.length < least then digs f (n / 10) least (ch (n % 10) :: acc) else acc
def dig (n least : Nat) (acc : List UInt8) : List UInt8 := digs 40 n least acc

theorem digs_fuel : ∀ (m f g n least : Nat) (acc : List UInt8), n < 10 ^ m → least ≤ acc.length + m → m ≤ f → m ≤ g → digs f n least acc = digs g n least acc := by
  intro m
  induction m with
  | zero =>
    intro f g n least acc h1 h2 _ _
    have hn : n = 0 := by simpa using h1
    have hno : ¬ (0 < n ∨ acc.length < least) := by omega
    cases f <;> cases g <;> simp only [digs, if_neg hno]
  | succ m ih =>
    intro f g n least acc h1 h2 h3 h4
    obtain ⟨f, rfl⟩ : ∃ f', f = f' + 1 := ⟨f - 1, by omega⟩
    obtain ⟨g, rfl⟩ : ∃ g', g = g' + 1 := ⟨g - 1, by omega⟩
    simp only [digs]
    split
    · refine ih f g _ least _ ?_ ?_ (by omega) (by omega)
      · rw [Nat.pow_succ] at h1; omega
      · simp; omega
    · rfl

theorem dig_step {n least : Nat} {acc : List UInt8} (hn : n < 10 ^ 39) (hl : least ≤ acc.length + 39) (h : 0 < n ∨ acc.length < least) : dig n least acc = dig (n / 10) least (ch (n % 10) :: acc) := by
  unfold dig
  rw [digs, if_pos h]
  exact digs_fuel 39 39 40 _ least _ (by omega) (by simp; omega) (by omega) (by omega)

theorem dig_done {n least : Nat} {acc : List UInt8} (h : ¬ (0 < n ∨ acc.length < least)) : dig n least acc = acc := by
  unfold dig; rw [digs, if_neg h]

theorem digs_len : ∀ (f n least : Nat) (acc : List UInt8), acc.length ≤ (digs f n least acc).length ∧ (least ≤ acc.length + f → least ≤ (digs f n least acc).length)
  | 0, _, _, acc => ⟨by simp [digs], by simp [digs]⟩
  | f + 1, n, least, acc => by
    rw [digs]
    split
    · have h := digs_len f (n / 10) least (ch (n % 10) :: acc)
      simp at h
      exact ⟨by omega, fun hl => h.2 (by omega)⟩
    · rename_i hno
      exact ⟨Nat.le_refl _, fun _ => by omega⟩

/-- A point ahead of the last k digits. -/
def pt (k : Nat) (acc : List UInt8) : List UInt8 := if 0 < k ∧ k < acc.length then acc.take (acc.length - k) ++ 46 :: acc.drop (acc.length - k) else acc

theorem pt_len (k : Nat) (acc : List UInt8) : (pt k acc).length = acc.length + (if 0 < k ∧ k < acc.length then 1 else 0) := by
  unfold pt; split <;> simp <;> omega
theorem pt_dot {k : Nat} {acc : List UInt8} {c : UInt8} (hk : 0 < k) (h : acc.length = k) : pt k (c :: acc) = c :: 46 :: acc ∧ pt k acc = acc := by
  constructor
  · unfold pt; rw [if_pos (by simp; omega)]
    have e : (c :: acc).length - k = 1 := by simp; omega
    rw [e]; rfl
  · unfold pt; rw [if_neg (by omega)]
theorem pt_plain {k : Nat} {acc : List UInt8} {c : UInt8} (h : ¬ (0 < k ∧ acc.length = k)) : pt k (c :: acc) = c :: pt k acc := by
  unfold pt
  by_cases h1 : 0 < k ∧ k < acc.length
  · rw [if_pos h1, if_pos (by simp; omega)]
    have e : (c :: acc).length - k = acc.length - k + 1 := by simp; omega
    rw [e]; rfl
  · rw [if_neg h1, if_neg (by simp; omega)]

theorem len_step {m len : Nat} (h : m * 10 ^ len < 10 ^ 19) : (0 < m → len ≤ 18) ∧ (m / 10) * 10 ^ (len + 1) < 10 ^ 19 := by
  constructor
  · intro hm
    have h1 : 10 ^ len < 10 ^ 19 := Nat.lt_of_le_of_lt (Nat.le_mul_of_pos_left _ hm) h
    have := (Nat.pow_lt_pow_iff_right (by decide : 1 < 10)).1 h1
    omega
  · rw [Nat.pow_succ]
    have h2 : m / 10 * (10 ^ len * 10) = (m / 10 * 10) * 10 ^ len := by rw [Nat.mul_comm (10 ^ len), Nat.mul_assoc]
    rw [h2]
    exact Nat.lt_of_le_of_lt (Nat.mul_le_mul_right _ (Nat.div_mul_le_self m 10)) h

theorem digs_le : ∀ (f n least : Nat) (acc : List UInt8), n * 10 ^ acc.length < 10 ^ 19 → least ≤ 10 → acc.length ≤ 19 → (digs f n least acc).length ≤ 19
  | 0, _, _, acc, _, _, h => h
  | f + 1, n, least, acc, h1, h2, h3 => by
    rw [digs]
    split
    · rename_i hc
      have h := len_step h1
      refine digs_le f _ _ _ (by simpa using h.2) h2 ?_
      simp only [List.length_cons]
      rcases hc with hc | hc
      · have := h.1 hc; omega
      · omega
    · exact h3
theorem dig_le (n least : Nat) (hn : n ≤ 1152921504606846976) (hl : least ≤ 10) : (dig n least []).length ≤ 19 :=
  digs_le 40 n least [] (by simp; omega) hl (by simp)
theorem dig_ge (n least : Nat) (hl : least ≤ 40) : least ≤ (dig n least []).length := (digs_len 40 n least []).2 (by simpa using hl)

def sgn (n : Int) : List UInt8 := if n < 0 then [45] else []
/-- The decimal text of n with k digits behind the point. -/
def fmtL (n : Int) (k : Nat) : List UInt8 := sgn n ++ pt k (dig n.natAbs (k + 1) [])
end Go.Proofs.YthdafpbmmfelpaaGreatDoor.Dec
