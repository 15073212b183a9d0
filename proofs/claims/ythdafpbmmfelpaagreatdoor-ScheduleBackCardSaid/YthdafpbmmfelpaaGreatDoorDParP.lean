/- Reading decimal texts, as plain functions on lists of bytes. Nothing of the program. -/
import Derived.Test.YthdafpbmmfelpaaGreatDoorM1
namespace Go.Proofs.YthdafpbmmfelpaaGreatDoor.Dec

def noDot (c : Int) : Bool := c != 46
/-- All bytes are digits. -/
def adB (l : List UInt8) : Bool := cnt dgB l == l.length
/-- An integral part without superfluous zeros. -/
def wholeB (l : List UInt8) : Bool := l == [48] || (adB l && !l.isEmpty && !(l.head? == some 48))
def dv (c : UInt8) : Nat := c.toNat - 48
/-- The number with these digits behind n, if it is at most 2^60. -/
def valL : Nat → List UInt8 → Option Nat
  | n, [] => some n
  | n, c :: r => if (1152921504606846976 - dv c) / 10 < n then none else valL (10 * n + dv c) r

def unsg : List UInt8 → List UInt8
  | [] => []
  | c :: r => if (c.toNat : Int) = 45 then r else c :: r
def negB : List UInt8 → Bool
  | [] => false
  | c :: _ => (c.toNat : Int) == 45

/-- The integral part and the further digits, if the form is right. -/
def formL (u : List UInt8) (k : Nat) : Option (List UInt8 × List UInt8) :=
  if wholeB (u.take (cnt noDot u)) = true ∧ (cnt noDot u < u.length → (u.drop (cnt noDot u + 1)) ≠ [] ∧ (u.drop (cnt noDot u + 1)).length ≤ k ∧ adB (u.drop (cnt noDot u + 1)) = true)
  then some (u.take (cnt noDot u), u.drop (cnt noDot u + 1)) else none

def padL (k : Nat) (p : List UInt8) : List UInt8 := List.replicate (k - p.length) 48

/-- What Parse returns: a number and an error number. -/
def parseL (l : List UInt8) (k : Nat) : Int × Int :=
  match formL (unsg l) k with
  | none => (0, 7)
  | some (w, p) => match valL 0 (w ++ p ++ padL k p) with
    | none => (0, 5)
    | some n => (if negB l = true then -(n : Int) else n, 0)

theorem adB_iff {l : List UInt8} : adB l = true ↔ cnt dgB l = l.length := by unfold adB; simp

theorem cnt_append_lt (p : Int → Bool) : ∀ (a b : List UInt8), cnt p a < a.length → cnt p (a ++ b) = cnt p a
  | [], _, h => by simp at h
  | c :: r, b, h => by
    by_cases hp : p (c.toNat : Int) = true
    · have e : cnt p (c :: r) = cnt p r + 1 := cnt_cons' p c r hp
      rw [e] at h ⊢
      rw [List.cons_append, cnt_cons' p c _ hp, cnt_append_lt p r b (by simpa using h)]
    · rw [List.cons_append, cnt, if_neg hp, cnt, if_neg hp]
where
  cnt_cons' (p : Int → Bool) (c : UInt8) (r : List UInt8) (h : p (c.toNat : Int) = true) : cnt p (c :: r) = cnt p r + 1 := by rw [cnt, if_pos h]

theorem cnt_append_all (p : Int → Bool) : ∀ (a b : List UInt8), cnt p a = a.length → cnt p (a ++ b) = a.length + cnt p b
  | [], b, _ => by simp
  | c :: r, b, h => by
    by_cases hp : p (c.toNat : Int) = true
    · have e : cnt p (c :: r) = cnt p r + 1 := by rw [cnt, if_pos hp]
      rw [e] at h
      rw [List.cons_append, cnt, if_pos hp, cnt_append_all p r b (by simpa using h)]
      simp; omega
    · rw [cnt, if_neg hp] at h; simp at h

theorem cnt_all_iff (p : Int → Bool) : ∀ l : List UInt8, cnt p l = l.length ↔ ∀ c ∈ l, p (c.toNat : Int) = true
  | [] => by simp [cnt]
  | c :: r => by
    by_cases hp : p (c.toNat : Int) = true
    · rw [cnt, if_pos hp]; simp [hp, cnt_all_iff p r]
    · rw [cnt, if_neg hp]; simp [hp]

/-- Digits stop ahead of the point, or at it. -/
theorem dig_le_dot : ∀ l : List UInt8, cnt dgB l ≤ cnt noDot l
  | [] => by simp [cnt]
  | c :: r => by
    by_cases hp : dgB (c.toNat : Int) = true
    · have h1 := dgB_iff.1 hp
      have h2 : noDot (c.toNat : Int) = true := by unfold noDot; rw [bne_iff_ne]; omega
      rw [cnt, if_pos hp, cnt, if_pos h2]
      have := dig_le_dot r; omega
    · rw [cnt, if_neg hp]; omega

theorem take_ad {u : List UInt8} : adB (u.take (cnt noDot u)) = true ↔ cnt dgB u = cnt noDot u := by
  have h1 := dig_le_dot u
  have h2 := cnt_le noDot u
  rw [adB_iff]
  have hl : (u.take (cnt noDot u)).length = cnt noDot u := by simp; omega
  rw [hl]
  have hs : u.take (cnt noDot u) ++ u.drop (cnt noDot u) = u := List.take_append_drop ..
  constructor
  · intro h
    have h3 := cnt_append_all dgB (u.take (cnt noDot u)) (u.drop (cnt noDot u)) (by rw [h, hl])
    rw [hs, hl] at h3
    omega
  · intro h
    rcases Nat.lt_or_ge (cnt dgB (u.take (cnt noDot u))) (u.take (cnt noDot u)).length with h4 | h4
    · have h3 := cnt_append_lt dgB (u.take (cnt noDot u)) (u.drop (cnt noDot u)) h4
      rw [hs] at h3
      omega
    · have := cnt_le dgB (u.take (cnt noDot u)); omega
end Go.Proofs.YthdafpbmmfelpaaGreatDoor.Dec
